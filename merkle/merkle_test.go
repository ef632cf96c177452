package merkle_test

import (
	"math"
	"math/big"
	"math/rand"
	"slices"
	"strconv"
	"testing"

	"cenotaph/api"
	"cenotaph/merkle"
	"cenotaph/mut"
	"cenotaph/state"
	"cenotaph/wire"
)

func at(phys, logic, who int) api.Stamp { return api.Stamp{Phys: phys, Logic: logic, Who: who} }

func put(key, val string, phys int) api.Mut {
	return api.Mut{Table: api.Last, Kind: api.Put, Key: key, Val: val, At: at(phys, 0, 0)}
}

func wipe(key, end string, phys int) api.Mut {
	return api.Mut{Table: api.Last, Kind: api.Wipe, Key: key, End: end, At: at(phys, 0, 0)}
}

func sib(key, val string, phys int, over ...api.Stamp) api.Mut {
	return api.Mut{Table: api.Causal, Kind: api.Put, Key: key, Val: val, At: at(phys, 0, 0), Over: over}
}

// The model's numbers are great ones, cut to 64 bits wherever the document says so.

func number(s string) *big.Int {
	n, _ := new(big.Int).SetString(s, 10)
	return n
}

func begin() *big.Int { return number("14695981039346656037") }

func cut(n *big.Int) *big.Int {
	return n.Mod(n, new(big.Int).Lsh(big.NewInt(1), 64))
}

func times(x *big.Int, c int64) *big.Int {
	x = new(big.Int).Xor(x, big.NewInt(c))
	return cut(x.Mul(x, number("1099511628211")))
}

func bucket(key string) int {
	x := begin()
	for _, r := range key {
		x = times(x, int64(r))
	}
	return int(x.Rsh(x, 60).Int64())
}

func on(x *big.Int, b []byte) *big.Int {
	for _, c := range b {
		x = times(x, int64(c))
	}
	return new(big.Int).Xor(x, new(big.Int).Div(x, big.NewInt(1<<29)))
}

func parts(x *big.Int) (int, int) {
	n, rest := new(big.Int).DivMod(x, big.NewInt(4), new(big.Int))
	return int(n.Int64()), int(rest.Int64())
}

func node(a, b *big.Int) *big.Int {
	i, m := parts(a)
	j, n := parts(b)
	return on(on(begin(), wire.Put(nil, i)), append(wire.Put(nil, j), byte(4*m+n)))
}

func model(c state.Content) merkle.Tree {
	var sums [32]*big.Int
	for i := 16; i < 32; i++ {
		sums[i] = begin()
	}
	l := slices.Concat(c.Sibs, c.Wipes, c.Cells)
	slices.SortFunc(l, mut.Compare)
	for _, m := range l {
		i := 16 + bucket(m.Key)
		sums[i] = on(sums[i], mut.Put(nil, m))
	}
	var t merkle.Tree
	for i := 31; i > 0; i-- {
		if i < 16 {
			sums[i] = node(sums[2*i], sums[2*i+1])
		}
		t[i] = sums[i].Uint64()
	}
	return t
}

// P24.1: the leaves of keys.
func TestBucket(t *testing.T) {
	if merkle.Deep != 4 || merkle.Leaves != 16 {
		t.Error("the constants are", merkle.Deep, merkle.Leaves)
	}
	for key, want := range map[string]int{"": 12, "a": 10, "k": 10, "kk": 0, "k\u00e9": 0, "node": 3, "key-1": 7, "key-30": 1, "z": 10} {
		if n := merkle.Bucket(key); n != want {
			t.Errorf("Bucket(%q) is %d", key, n)
		}
	}
	seen := [16]int{}
	for i := range 3000 {
		key := "k" + strconv.Itoa(i*i) + string(rune(i))
		n := merkle.Bucket(key)
		if n != bucket(key) {
			t.Fatalf("Bucket(%q) is %d, not %d", key, n, bucket(key))
		}
		seen[n]++
	}
	if slices.Contains(seen[:], 0) {
		t.Error("some leaves have no keys:", seen)
	}
	for _, key := range []string{"a\xff", "\xc3", "\xff\xfe\u00e9", "\x00", "a\u20ac\U0001f600"} { // bytes that begin no rune, too
		if n := merkle.Bucket(key); n != bucket(key) {
			t.Errorf("Bucket(%q) is %d", key, n)
		}
	}
	if merkle.Bucket("\xff") != merkle.Bucket("\ufffd") {
		t.Error("a byte that begins no rune isn't U+FFFD")
	}
}

// P24.1: sums, one by one.
func TestOf(t *testing.T) {
	none := merkle.Of(state.Content{})
	k := put("k", "v", 2)
	k.At.Who = 1
	w := sib("k", "w", 300, at(1, 0, 0), at(2, 0, 0))
	w.At = at(300, 1, 1)
	for name, x := range map[string]struct {
		tree merkle.Tree
		root uint64
		leaf uint64 // that of k, and of a
	}{
		"nothing":   {none, 5934130840265990958, 14695981039346656037},
		"a cell":    {merkle.Of(state.Of(k)), 15087423946513235945, 16344327443678064495},
		"all sorts": {merkle.Of(state.Of(w, wipe("a", "z", 1), k)), 4668649917526823794, 14819574601856232679},
	} {
		if x.tree.Root() != x.root || x.tree[1] != x.root || x.tree[26] != x.leaf || x.tree[0] != 0 {
			t.Errorf("%s: the sums are %v", name, x.tree)
		}
		for i := 16; i < 32; i++ {
			if i != 26 && x.tree[i] != 14695981039346656037 {
				t.Errorf("%s: at %d there is %d", name, i, x.tree[i])
			}
		}
	}
	for i, want := range map[int]uint64{2: 12300378136400762646, 4: 10391695767083323681, 8: 1516947673353871519, 15: 1516947673353871519} {
		if none[i] != want {
			t.Errorf("of nothing, at %d there is %d", i, none[i])
		}
	}
}

// some: a mutation of few keys, so that many of them meet.
func some(random *rand.Rand) api.Mut {
	n := random.Intn(40)
	key := "k" + strconv.Itoa(n*n) + string(rune('a'+n))
	m := put(key, strconv.Itoa(random.Intn(3)), 1+random.Intn(1<<random.Intn(20)))
	m.At.Logic, m.At.Who = random.Intn(2), random.Intn(300)
	switch random.Intn(8) {
	case 0:
		m.Kind, m.Val, m.End = api.Wipe, "", key+"a"
	case 1:
		m.Kind, m.Val = api.Del, ""
	case 2, 3, 4:
		m.Table = api.Causal
		if m.At.Phys > 3 {
			m.Over = []api.Stamp{at(1+random.Intn(3), 0, 1)}
		}
	case 5:
		m.Expiry = 1 + random.Intn(3000)
	}
	return m
}

func contents(random *rand.Rand, most int) state.Content {
	var l []api.Mut
	for range random.Intn(most) {
		l = append(l, some(random))
	}
	return state.Of(l...)
}

// keys: the keys of a content's mutations that are in leaves, as the document words it.
func keys(c state.Content, leaves ...int) []string {
	var l []string
	for _, m := range c.All() {
		if slices.Contains(leaves, bucket(m.Key)) && !slices.Contains(l, m.Key) {
			l = append(l, m.Key)
		}
	}
	slices.Sort(l)
	return l
}

// differ: likewise, by all nodes above a leaf; and how many are looked at.
func differ(a, b merkle.Tree) ([]int, int) {
	other := func(i int) bool {
		for ; i > 0; i /= 2 {
			if a[i] == b[i] {
				return false
			}
		}
		return true
	}
	var leaves []int
	n := 1
	for i := 1; i < 32; i++ {
		if i > 1 && other(i/2) {
			n++
		}
		if i >= 16 && other(i) {
			leaves = append(leaves, i-16)
		}
	}
	return leaves, n
}

// P24.1 to P24.3: trees of any contents, against the model; where two differ.
func TestAgainstModel(t *testing.T) {
	random := rand.New(rand.NewSource(24))
	looked := map[int]int{}
	for range 600 {
		a, b := contents(random, 30), contents(random, 30)
		if random.Intn(2) == 0 {
			b = state.Join(a, contents(random, 3))
		}
		x, y := merkle.Of(a), merkle.Of(b)
		if x != model(a) || y != model(b) || x != merkle.Of(state.Of(a.All()...)) {
			t.Fatalf("the sums of %v are %v", a, x)
		}
		if !x.Sound() || !y.Sound() || x.Root() != x[1] {
			t.Fatalf("they aren't sound: %v, %v", x, y)
		}
		l, n := merkle.Differ(x, y)
		want, m := differ(x, y)
		if !slices.Equal(l, want) || n != m {
			t.Fatalf("%v and %v differ at %v, with %d looked at, not %v, %d", x, y, l, n, want, m)
		}
		looked[n]++
		if (len(l) == 0) != state.Same(a, b) {
			t.Fatalf("%v and %v differ at %v", a, b, l)
		}
		for _, i := range l {
			if slices.EqualFunc(in(a, i), in(b, i), mut.Same) {
				t.Fatalf("%v and %v are the same at %d", a, b, i)
			}
		}
		leaves := []int{random.Intn(16), random.Intn(20) - 2, random.Intn(16)}
		if k := merkle.Keys(a, leaves); !slices.Equal(k, keys(a, leaves...)) {
			t.Fatalf("%v has in %v the keys %q", a, leaves, k)
		}
	}
	if len(looked) < 5 {
		t.Error("few numbers of nodes were looked at:", looked)
	}
}

// in: the mutations of a leaf.
func in(c state.Content, leaf int) []api.Mut {
	return slices.DeleteFunc(c.All(), func(m api.Mut) bool { return bucket(m.Key) != leaf })
}

// P24.2: a tree of which one sum is another one isn't sound, but where that is at 0.
func TestSound(t *testing.T) {
	whole := merkle.Of(state.Of(put("k", "v", 1), put("kk", "v", 1), put("node", "v", 2)))
	for i := range whole {
		for _, by := range []uint64{1, 4, 1 << 63} {
			x := whole
			x[i] ^= by
			if x.Sound() != (i == 0) {
				t.Errorf("with another sum at %d it is sound: %v", i, x.Sound())
			}
			if x.Root() != whole.Root() != (i == 1) {
				t.Errorf("with another sum at %d the root's is %d", i, x.Root())
			}
		}
	}
	if (merkle.Tree{}).Sound() || (merkle.Tree{}).Root() != 0 {
		t.Error("a tree of noughts is sound")
	}
	swapped := whole
	swapped[2], swapped[3] = whole[3], whole[2]
	if swapped.Sound() {
		t.Error("with two sums swapped it is sound")
	}
}

// P24.2: where trees of any sums differ: a leaf below a node that is the same isn't looked at.
func TestDiffer(t *testing.T) {
	whole := merkle.Of(state.Of(put("k", "v", 1)))
	if l, n := merkle.Differ(whole, whole); len(l) != 0 || n != 1 {
		t.Error("it differs from itself at", l, n)
	}
	all := whole
	for i := range all {
		all[i]++
	}
	if l, n := merkle.Differ(whole, all); !slices.Equal(l, []int{0, 1, 2, 3, 4, 5, 6, 7, 8, 9, 10, 11, 12, 13, 14, 15}) || n != 31 {
		t.Error("all of it differs at", l, n)
	}
	for name, x := range map[string]struct {
		nodes, leaves []int
		looked        int
	}{
		"at nothing": {nil, nil, 1}, "at 0": {[]int{0}, nil, 1}, "at the root": {[]int{1}, nil, 3}, "at a leaf alone": {[]int{16}, nil, 1}, "but at the root": {[]int{2, 4, 8, 16}, nil, 1}, "at the first leaf": {[]int{1, 2, 4, 8, 16}, []int{0}, 9}, "at the last leaf": {[]int{1, 3, 7, 15, 31}, []int{15}, 9},
		"at a node above": {[]int{1, 2, 5}, nil, 7}, "at two leaves": {[]int{1, 3, 6, 12, 24, 25, 7, 14, 28}, []int{8, 9, 12}, 13}, "at a leaf below another one": {[]int{1, 2, 4, 8, 18}, nil, 9},
	} {
		y := whole
		for _, i := range x.nodes {
			y[i] = ^y[i]
		}
		for range 2 {
			if l, n := merkle.Differ(whole, y); !slices.Equal(l, x.leaves) || n != x.looked {
				t.Errorf("%s it differs at %v, with %d looked at", name, l, n)
			}
			whole, y = y, whole
		}
		if l, n := merkle.Differ(y, whole); !slices.Equal(l, x.leaves) || n != x.looked {
			t.Errorf("%s it differs, the other way, at %v, with %d looked at", name, l, n)
		}
	}
	random := rand.New(rand.NewSource(25))
	for range 3000 {
		x, y := whole, whole
		for i := range x {
			if random.Intn(3) > 0 {
				x[i] = random.Uint64()
			}
		}
		l, n := merkle.Differ(x, y)
		if want, m := differ(x, y); !slices.Equal(l, want) || n != m {
			t.Fatalf("%v and %v differ at %v, with %d looked at, not %v, %d", x, y, l, n, want, m)
		}
	}
}

// P24.2: keys of leaves that are there, and of such that aren't.
func TestKeys(t *testing.T) {
	c := state.Of(put("k", "v", 9), put("kk", "v", 9), sib("k", "v", 9), sib("k", "v", 8), wipe("a", "b", 3), put("node", "v", 1))
	for name, x := range map[string]struct {
		leaves []int
		want   []string
	}{
		"none": {nil, nil}, "an empty row": {[]int{}, nil}, "one": {[]int{10}, []string{"a", "k"}}, "one twice": {[]int{10, 10}, []string{"a", "k"}}, "two": {[]int{3, 10}, []string{"a", "k", "node"}}, "the first one": {[]int{0}, []string{"kk"}}, "one without keys": {[]int{15}, nil}, "all": {[]int{15, 14, 13, 12, 11, 10, 9, 8, 7, 6, 5, 4, 3, 2, 1, 0}, []string{"a", "k", "kk", "node"}},
		"such that aren't there": {[]int{-1, 16, math.MaxInt, math.MinInt, -6, 26}, nil}, "one among these": {[]int{-1, 3, 16}, []string{"node"}},
	} {
		if l := merkle.Keys(c, x.leaves); !slices.Equal(l, x.want) {
			t.Errorf("%s: the keys are %q", name, l)
		}
	}
	if l := merkle.Keys(state.Content{}, []int{1, 2}); len(l) != 0 {
		t.Error("nothing has the keys", l)
	}
}

// Rule 1, rule 5: contents that no function told are taken; what is handed in isn't changed.
func TestOddContents(t *testing.T) {
	odd := []api.Mut{{}, put("k", "w", -1), put("k", "v", 1), {Key: "\xff", Table: -1, Kind: 77, At: at(math.MinInt, math.MaxInt, 0), Over: []api.Stamp{{}, at(-1, 0, 0)}}}
	c := state.Content{Cells: odd, Sibs: odd[1:], Wipes: odd[2:]}
	want := state.Content{Cells: mut.Copies(odd), Sibs: mut.Copies(odd[1:]), Wipes: mut.Copies(odd[2:])}
	if x := merkle.Of(c); !x.Sound() || x != model(want) {
		t.Error("the sums are", x)
	}
	leaves := []int{12, 10, bucket("\xff")}
	if l := merkle.Keys(c, leaves); !slices.Equal(l, []string{"", "k", "\xff"}) || leaves[0] != 12 {
		t.Errorf("the keys are %q", l)
	}
	if !state.Same(c, want) {
		t.Error("what was handed in became", c)
	}
}
