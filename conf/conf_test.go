package conf_test

import (
	"bytes"
	"math"
	"math/rand"
	"slices"
	"testing"

	"cenotaph/api"
	"cenotaph/conf"
	"cenotaph/wire"
)

// numbers: of nodes, and what is none.
func numbers() []int {
	return []int{0, 1, 2, 3, 4, 5, 6, -1, -5, math.MaxInt, math.MinInt}
}

func node(n int) bool { return 0 <= n && n < api.MaxNodes }

// P21.1: which configurations may be.
func TestRight(t *testing.T) {
	for name, c := range map[string]struct {
		c    conf.Conf
		want bool
	}{
		"the first one":    {conf.Conf{}, true},
		"the last one":     {conf.Conf{Epoch: api.MaxPhys}, true},
		"one beyond":       {conf.Conf{Epoch: api.MaxPhys + 1}, false},
		"one far beyond":   {conf.Conf{Epoch: math.MaxInt}, false},
		"one below":        {conf.Conf{Epoch: -1}, false},
		"one far below":    {conf.Conf{Epoch: math.MinInt, Join: [5]int{math.MinInt}}, false},
		"a join of it":     {conf.Conf{Epoch: 3, Join: [5]int{0, 1, 2, 3, 3}}, true},
		"a join behind it": {conf.Conf{Epoch: 3, Join: [5]int{0, 4}}, false},
		"the last one's":   {conf.Conf{Epoch: 3, Join: [5]int{0, 0, 0, 0, 4}}, false},
		"a join below":     {conf.Conf{Epoch: 3, Join: [5]int{0, 0, -1}}, false},
		"a join ahead":     {conf.Conf{Join: [5]int{1}}, false},
		"all out":          {conf.Conf{Epoch: 5, Out: [5]bool{true, true, true, true, true}}, true},
		"out at first":     {conf.Conf{Out: [5]bool{true}}, true},
	} {
		if conf.Right(c.c) != c.want {
			t.Errorf("%s: Right is %v", name, !c.want)
		}
	}
}

// P21.1: who is in, and who always was.
func TestIsAndAlways(t *testing.T) {
	c := conf.Conf{Epoch: 9, Out: [5]bool{false, true, false, true, false}, Join: [5]int{0, 0, 3, 4, -1}}
	for _, n := range numbers() {
		if is := n == 0 || n == 2 || n == 4; c.Is(n) != is {
			t.Errorf("Is(%d) is %v", n, !is)
		}
		if c.Always(n) != (n == 0) {
			t.Errorf("Always(%d) is %v", n, n != 0)
		}
		if (conf.Conf{}).Is(n) != node(n) || (conf.Conf{}).Always(n) != node(n) {
			t.Errorf("the first one has %d: %v", n, !node(n))
		}
	}
}

// P21.1: Exclude and Include, of each node, and at the limits of Epoch.
func TestExcludeAndInclude(t *testing.T) {
	for _, epoch := range []int{0, 1, 7, api.MaxPhys - 1, api.MaxPhys, api.MaxPhys + 1, math.MaxInt, -1, math.MinInt} {
		room := epoch < api.MaxPhys
		for _, n := range numbers() {
			c := conf.Conf{Epoch: epoch, Out: [5]bool{true, false, true}, Join: [5]int{1, 1, 0, 0, 2}}
			was, want := c, c
			out, ok := c.Exclude(n)
			may := room && (n == 1 || n == 3 || n == 4)
			if may {
				want.Epoch++
				want.Out[n] = true
			}
			if out != want || ok != may || c != was {
				t.Errorf("Exclude(%d) at %d is %v, %v", n, epoch, out, ok)
			}
			want = c
			in, ok := c.Include(n)
			may = room && (n == 0 || n == 2)
			if may {
				want.Epoch++
				want.Out[n], want.Join[n] = false, epoch+1
			}
			if in != want || ok != may || c != was {
				t.Errorf("Include(%d) at %d is %v, %v", n, epoch, in, ok)
			}
		}
	}
	a, ok := conf.Conf{}.Exclude(1)
	b, is := a.Include(1)
	if !ok || !is || a.Epoch != 1 || b.Epoch != 2 || b.Join[1] != 2 || a.Join[1] != 0 || a.Always(1) || b.Always(1) || !b.Is(1) || a.Is(1) {
		t.Error(a, b)
	}
}

// P21.2: whether a node may be excluded.
func TestMay(t *testing.T) {
	c := conf.Conf{Epoch: 9, Out: [5]bool{false, false, false, true, false}, Join: [5]int{0, 0, 3, 4, 0}} // 0, 1 and 4 are Always, 2 is in, 3 out
	for _, x := range []struct {
		n      int
		groups [][]int
		want   bool
	}{
		{0, nil, true}, {2, nil, true}, {3, nil, false}, {5, nil, false}, {-1, nil, false}, {math.MaxInt, nil, false},
		{0, [][]int{{0, 1}}, true}, {0, [][]int{{0}}, false}, {0, [][]int{{0, 0}}, false}, {0, [][]int{{0, 2}}, false}, {0, [][]int{{0, 3}}, false}, {0, [][]int{{0, 2, 3, 4}}, true}, {0, [][]int{{2, 3}, {1}, {}}, true}, {0, [][]int{{}, nil}, true},
		{0, [][]int{{0, 1}, {2, 0}}, false}, {0, [][]int{{0, 1}, {4, 2, 0}}, true}, {0, [][]int{{2, 0}, {0, 1}}, false}, {0, [][]int{{0, 5, -1, math.MinInt}}, false}, {0, [][]int{{1, 0, 0}}, true},
		{2, [][]int{{2}}, false}, {2, [][]int{{2, 0}}, true}, {2, [][]int{{2, 3}}, false}, {2, [][]int{{0}}, true}, {3, [][]int{{0, 1, 3}}, false}, {3, [][]int{{0}}, false}, {5, [][]int{{0, 5}}, false},
	} {
		if c.May(x.n, x.groups...) != x.want {
			t.Errorf("May(%d, %v) is %v", x.n, x.groups, !x.want)
		}
	}
}

// P21.2: who of a row is in, and who leads.
func TestMembersAndLeader(t *testing.T) {
	c := conf.Conf{Epoch: 9, Out: [5]bool{false, true, false, false, false}, Join: [5]int{2, 0, 3, 0, 0}} // 3 and 4 are Always, 0 and 2 in, 1 out
	for _, x := range []struct {
		l, members []int
		leader     int
		ok         bool
	}{
		{nil, nil, 0, false}, {[]int{0, 1, 2, 3, 4}, []int{0, 2, 3, 4}, 3, true}, {[]int{4, 3, 2, 1, 0}, []int{4, 3, 2, 0}, 4, true}, {[]int{1, 0, 2}, []int{0, 2}, 0, false}, {[]int{1}, nil, 0, false},
		{[]int{2, 2, 1, 2}, []int{2, 2, 2}, 0, false}, {[]int{-1, 5, math.MaxInt, math.MinInt}, nil, 0, false}, {[]int{5, 1, 3, -1}, []int{3}, 3, true},
	} {
		l := append(slices.Clone(x.l), 3, 4)[:len(x.l)]
		m := c.Members(l)
		if !slices.Equal(m, x.members) {
			t.Errorf("Members(%v) is %v", x.l, m)
		}
		m = append(m, 99)
		m[0] = 99
		if n, ok := c.Leader(l); n != x.leader || ok != x.ok || !slices.Equal(l, x.l) || l[:len(l)+1][len(l)] != 3 {
			t.Errorf("Leader(%v) is %d, %v", x.l, n, ok)
		}
	}
	if n, ok := (conf.Conf{}).Leader([]int{0, 1}); n != 0 || !ok {
		t.Error("the first one's is", n, ok)
	}
}

// P21.3: the bytes.
func TestPut(t *testing.T) {
	for want, c := range map[string]conf.Conf{
		"\x00\x00\x00\x00\x00\x00\x00\x00\x00\x00\x00":                                             {},
		"\x09\x00\x01\x01\x02\x00\x00\x01\x00\x00\x09":                                             {Epoch: 9, Out: [5]bool{false, true, false, true, false}, Join: [5]int{1, 2, 0, 0, 9}},
		"\xa0\x80\x80\x80\x80\x00\x01\x82\x2c\x00\x00\x00\x00\x00\x00\x01\xa0\x80\x80\x80\x80\x00": {Epoch: api.MaxPhys, Out: [5]bool{true, false, false, false, true}, Join: [5]int{300, 0, 0, 0, api.MaxPhys}},
	} {
		if b := conf.Put(c); string(b) != want {
			t.Errorf("Put(%v) is %v", c, b)
		}
		if got, why := conf.Get([]byte(want)); got != c || why != api.OK {
			t.Errorf("%v is read as %v, %v", c, got, why)
		}
	}
}

// bare: the bytes of numbers.
func bare(l ...int) []byte {
	var b []byte
	for _, n := range l {
		b = wire.Put(b, n)
	}
	return b
}

// P21.3: why nothing is read.
func TestGetFaults(t *testing.T) {
	for name, c := range map[string]struct {
		b   []byte
		why api.Errno
	}{
		"nothing":                   {nil, api.ErrShort},
		"the epoch alone":           {bare(7), api.ErrShort},
		"one node less":             {bare(7, 0, 0, 0, 0, 0, 0, 0, 0), api.ErrShort},
		"no last join":              {bare(7, 0, 0, 0, 0, 0, 0, 0, 0, 0), api.ErrShort},
		"all of it":                 {bare(7, 0, 0, 0, 0, 0, 0, 0, 0, 0, 0), api.OK},
		"a byte behind":             {bare(7, 0, 0, 0, 0, 0, 0, 0, 0, 0, 0, 0), api.ErrForm},
		"an out of 2":               {bare(7, 0, 0, 2, 0, 0, 0, 0, 0, 0, 0), api.ErrForm},
		"the last out of 2":         {bare(7, 0, 0, 0, 0, 0, 0, 0, 0, 2, 0), api.ErrForm},
		"a join behind the epoch":   {bare(7, 0, 0, 0, 0, 0, 8, 0, 0, 0, 0), api.ErrForm},
		"the last join behind it":   {bare(7, 0, 0, 0, 0, 0, 0, 0, 0, 0, 8), api.ErrForm},
		"an epoch beyond":           {bare(api.MaxPhys+1, 0, 0, 0, 0, 0, 0, 0, 0, 0, 0), api.ErrForm},
		"a great epoch":             {bare(1<<62-1, 0, 0, 0, 0, 0, 0, 0, 0, 0, 0), api.ErrForm},
		"a needless byte":           {append([]byte{128}, bare(7, 0, 0, 0, 0, 0, 0, 0, 0, 0, 0)...), api.ErrForm},
		"a join behind it, and cut": {bare(7, 0, 8, 0, 0, 0, 0, 0, 0, 0), api.ErrShort},
	} {
		got, why := conf.Get(c.b)
		if why != c.why || why != api.OK && got != (conf.Conf{}) {
			t.Errorf("%s: %v, %v", name, got, why)
		}
	}
}

// P21.3, P1: what was put is read as it was, cut off it tells nothing, and of any bytes what is read has these.
func TestAnyBytes(t *testing.T) {
	random := rand.New(rand.NewSource(21))
	read := 0
	for range 30000 {
		c := conf.Conf{Epoch: random.Intn(api.MaxPhys + 1)}
		for n := range c.Join {
			c.Out[n] = random.Intn(2) == 0
			c.Join[n] = random.Intn(c.Epoch+1) >> random.Intn(40)
		}
		b := conf.Put(c)
		if got, why := conf.Get(b); got != c || why != api.OK || !conf.Right(c) {
			t.Fatalf("%v is read as %v, %v", c, got, why)
		}
		if got, why := conf.Get(b[:random.Intn(len(b))]); got != (conf.Conf{}) || why != api.ErrShort {
			t.Fatalf("%v, cut off, is read as %v, %v", c, got, why)
		}
		b[random.Intn(len(b))] = byte(random.Intn(256) >> random.Intn(8))
		got, why := conf.Get(b)
		if why != api.OK {
			continue
		}
		read++
		if !conf.Right(got) || !bytes.Equal(conf.Put(got), b) {
			t.Fatalf("%v is read as %v", b, got)
		}
	}
	if read < 1000 {
		t.Error("few were read:", read)
	}
}
