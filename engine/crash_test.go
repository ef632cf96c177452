package engine_test

import (
	"math/rand"
	"slices"
	"strings"
	"testing"

	"cenotaph/api"
	"cenotaph/disk"
	"cenotaph/engine"
	"cenotaph/frame"
	"cenotaph/mut"
	"cenotaph/state"
	"cenotaph/table"
	"cenotaph/verse"
)

// met is where the power went in a script: the call, what was there ahead of it, what is to be there with it.
type met struct {
	d           *disk.Disk
	e           *engine.Engine
	at          int // the call's place
	ahead, with model
}

// until makes the calls of a script on a disk whose power goes in an operation; false: it didn't.
func until(t *testing.T, ops int, l []act) (met, bool) {
	t.Helper()
	d := disk.New(wide)
	d.Arm(ops)
	e := open(t, d)
	var m model
	for i, a := range l {
		next, _ := a.on(m)
		switch why := a.do(e); why {
		case api.OK:
			if m = next; d.Off() {
				t.Fatalf("%d: the power went in %s", i, a.name)
			}
		case api.ErrDown:
			return met{d, e, i, m, next}, true
		default:
			t.Fatalf("%d: %s is %v", i, a.name, why)
		}
	}
	return met{}, false
}

// loose: how many bytes aren't synced.
func (x met) loose() int {
	used := x.d.Used()
	x.d.Up(0)
	return used - x.d.Used()
}

// P19.5: the power goes in each operation of a script, and of what wasn't synced each part is left: there is the call in which it went, or it isn't; all that comes then stays.
func TestPowerGoes(t *testing.T) {
	l := script()
	random := rand.New(rand.NewSource(19))
	seen := map[bool]int{}
	for ops := 0; ; ops++ {
		x, ok := until(t, ops, l)
		if !ok {
			break
		}
		n := x.loose()
		for _, keep := range slices.Compact([]int{0, 1, n / 2, random.Intn(n + 1), n - 1, n}) {
			x, _ := until(t, ops, l)
			if !x.e.Dead() {
				t.Fatal("the engine isn't dead")
			}
			holds(t, x.e, x.ahead)
			x.d.Up(keep)
			e := open(t, x.d)
			m := x.ahead
			if done := x.with.is(e); done {
				m = x.with
				seen[keep == 0]++
			}
			holds(t, e, m)
			fits(t, x.d, e)
			does(t, e, &m, l[x.at:]...)
			fits(t, x.d, e)
			x.d.Crash()
			x.d.Up(keep)
			e = open(t, x.d)
			holds(t, e, m)
			fits(t, x.d, e)
		}
	}
	if seen[true] == 0 || seen[false] == 0 {
		t.Error("it wasn't ever done:", seen)
	}
}

// P19.5: all parts of a record that the power leaves, in the log, and in the file of versions.
func TestPartsOfRecords(t *testing.T) {
	for name, a := range map[string]act{"a mutation": apply(sib("k", strings.Repeat("v", 64), 900, at(1, 0, 0), at(2, 0, 0))), "a version": set(at(300, 300, 300), at(300, 300, 301), true)} {
		for _, ahead := range [][]act{{set(at(1, 0, 0), at(1, 0, 0), false)}, {apply(put("k", "v", 3)), set(at(1, 0, 0), at(1, 0, 0), false), apply(put("a", "v", 4))}} {
			for keep := 0; ; keep++ {
				d := disk.New(wide)
				e := open(t, d)
				var m model
				does(t, e, &m, ahead...)
				used := d.Used()
				d.Arm(0)
				if why := a.do(e); why != api.ErrDown {
					t.Fatal(why)
				}
				whole := d.Used() - used
				d.Up(keep)
				e = open(t, d)
				if keep > whole {
					break
				}
				if keep == whole {
					m, _ = a.on(m)
				}
				holds(t, e, m)
				does(t, e, &m, apply(put("k", "w", 1000)), set(at(9, 0, 0), at(9, 0, 0), true))
				fits(t, d, e)
				d.Crash()
				d.Up(0)
				if e = open(t, d); !m.is(e) {
					t.Fatalf("%s, of which %d bytes of %d are left: then there is %v, not %v", name, keep, whole, tells(e), m)
				}
			}
		}
	}
}

// P19.1, P19.5: the power goes while an engine is opened, or is armed by then: what it left of calls ahead is never taken for what comes.
func TestPowerGoesInOpen(t *testing.T) {
	for ops := range 60 {
		for _, again := range []bool{false, true} {
			x, ok := until(t, ops, script())
			if !ok {
				t.Fatal("the script is short")
			}
			x.d.Up(99)
			x.d.Arm(0)
			e := open(t, x.d)
			m := x.ahead
			if !m.is(e) {
				m = x.with
			}
			holds(t, e, m)
			x.d.Crash()
			x.d.Up(0)
			if again {
				e = open(t, x.d)
			}
			does(t, e, &m, apply(put("k", "v", 60)), flushed, apply(del("b", 61)), swept, set(at(5, 0, 0), at(6, 0, 0), false))
			fits(t, x.d, e)
			holds(t, open(t, x.d), m)
		}
	}
}

// P19.2: behind ErrDown each call that writes answers just that, and what is told is as it was.
func TestDead(t *testing.T) {
	no := api.Stamp{}
	for _, a := range []act{apply(put("b", "v", 9)), set(at(1, 0, 0), no, true), install(at(9, 0, 0), at(2, 0, 0), put("b", "v", 9)), flushed, swept, tidied} {
		for ops := 0; ; ops++ {
			d := disk.New(wide)
			e := open(t, d)
			var m model
			for i := range 4 {
				does(t, e, &m, flushed, apply(put("k", "v", 1+i)))
			}
			if a.name == tidied.name {
				does(t, e, &m, flushed)
			}
			n, r := e.Tables()
			d.Arm(ops)
			why := a.do(e)
			if why == api.OK {
				if ops == 0 || e.Dead() {
					t.Fatalf("%s writes nothing", a.name)
				}
				break
			}
			if why != api.ErrDown || !d.Off() {
				t.Fatalf("%s is %v", a.name, why)
			}
			dead := func() {
				t.Helper()
				holds(t, e, m)
				if x, y := e.Tables(); x != n || y != r || !e.Dead() || !e.Below() {
					t.Fatalf("behind %s there is %d, %d, %v, %v", a.name, x, y, e.Dead(), e.Below())
				}
			}
			dead()
			for range 2 {
				for _, b := range []act{apply(put("a", "v", 10)), apply(api.Mut{}), set(no, no, false), set(m.floor, m.fence, m.quar), set(at(-1, 0, 0), no, false), install(no, no), install(at(-1, 0, 0), no), flushed, swept, tidied} {
					if why := b.do(e); why != api.ErrDown {
						t.Fatalf("behind %s, %s is %v", a.name, b.name, why)
					}
					dead()
				}
				d.Up(0) // the power is there again, but not for this engine
			}
		}
	}
}

// P19.2: without power what is to be written is ErrDown, and what may not be is what it is elsewhere.
func TestWithoutPower(t *testing.T) {
	no := api.Stamp{}
	for _, a := range []act{apply(put("b", "v", 9)), set(at(1, 0, 0), no, true), install(no, no), flushed, swept, tidied} {
		d := disk.New(wide)
		e := open(t, d)
		var m model
		for i := range 4 {
			does(t, e, &m, apply(put("k", "v", 1+i)))
			if a.name != flushed.name {
				does(t, e, &m, flushed)
			}
		}
		d.Crash()
		does(t, e, &m, apply(api.Mut{}), set(at(-1, 0, 0), no, false), install(at(-1, 0, 0), no))
		if e.Dead() {
			t.Fatal("it is dead already")
		}
		if why := a.do(e); why != api.ErrDown || !e.Dead() {
			t.Errorf("%s is %v", a.name, why)
		}
		holds(t, e, m)
	}
}

// snap is all that a disk's files have.
func snap(d *disk.Disk) string {
	var s strings.Builder
	for name := range d.Names() {
		b, _ := d.Read(name)
		s.WriteString(name)
		s.WriteByte(0)
		s.Write(b)
	}
	return s.String()
}

// always: does a call always write?
func (a act) always(m, next model) bool {
	switch a.name {
	case "Set":
		return next.floor != m.floor || next.fence != m.fence || next.quar != m.quar
	case "Flush", "Tidy":
		return false
	}
	return true
}

// P19.2, P19.3: on a disk without room each call is done, or ErrFull; then nothing is otherwise, and with room it is done.
func TestFull(t *testing.T) {
	l := script()
	full := map[string]int{}
	for _, more := range []int{0, 1, 2, 7, 15, 20, 25, 30, 40, 60, 90, 130, 200} {
		d := disk.New(wide)
		e := open(t, d)
		var m model
		for i, a := range l {
			d.Room(d.Used() + more)
			was, below := snap(d), e.Below()
			n, r := e.Tables()
			next, _ := a.on(m)
			switch why := a.do(e); {
			case why == api.OK && !(more == 0 && a.always(m, next)):
				m = next
				fits(t, d, e)
				continue
			case why != api.ErrFull || e.Dead():
				t.Fatalf("with %d bytes of room, %d, %s is %v, %v", more, i, a.name, why, e.Dead())
			}
			full[a.name]++
			x, y := e.Tables()
			if snap(d) != was || x != n || y != r || e.Below() != below {
				t.Fatalf("with %d bytes of room, %d, %s, there are then %d, %d tables, and %q, not %q", more, i, a.name, x, y, snap(d), was)
			}
			holds(t, e, m)
			d.Room(wide)
			if i%2 == 0 {
				e = open(t, d)
				holds(t, e, m)
			}
			does(t, e, &m, a)
			fits(t, d, e)
		}
	}
	if len(full) != 6 {
		t.Error("not all calls had too little room:", full)
	}
}

// P19.2: a mutation stays in the log, where there is room for that, but not for a table; with room there is one again.
func TestRoomForTheLogAlone(t *testing.T) {
	d := disk.New(wide)
	e := open(t, d)
	var m model
	for i := range engine.LogMost - 1 {
		does(t, e, &m, apply(put("k"+strings.Repeat("a", i), "v", 1+i)))
	}
	for i := range 20 {
		one := len(frame.Put(nil, mut.Put(nil, put("k", "v", 50+i))))
		d.Room(d.Used() + one)
		does(t, e, &m, apply(put("k", "v", 50+i)))
		tables(t, e, 0, 0)
		fits(t, d, e)
	}
	if n := len(read(t, d).log); n != engine.LogMost+19 {
		t.Error("the log has", n)
	}
	e = open(t, d)
	d.Room(wide)
	does(t, e, &m, apply(put("a", "v", 99)))
	tables(t, e, 1, 0)
	fits(t, d, e)
}

// P19.2: on a disk that has as many files as it may have.
func TestManyFiles(t *testing.T) {
	d := disk.New(wide)
	for i := range api.MaxFiles {
		d.Append("x"+strings.Repeat("a", i%20)+string(rune('a'+i/20)), []byte{1})
	}
	e := open(t, d)
	for _, a := range []act{apply(put("k", "v", 1)), set(at(1, 0, 0), api.Stamp{}, false), swept, install(api.Stamp{}, api.Stamp{})} {
		if why := a.do(e); why != api.ErrFull {
			t.Errorf("%s is %v", a.name, why)
		}
		holds(t, e, model{})
	}
	d.Delete("xa")
	var m model
	does(t, e, &m, apply(put("k", "v", 1)))
	if why := e.Flush(); why != api.ErrFull {
		t.Error("Flush is", why)
	}
	holds(t, e, m)
	fits(t, d, e)
}

// P19.2: where the numbers end there are no more tables, and no more versions.
func TestNumbersEnd(t *testing.T) {
	const word = "r"
	d := disk.New(wide)
	v := verse.Version{Log: api.MaxPhys - 3, Next: api.MaxPhys - 2}
	write(d, verse.Base(word), frame.Put(nil, verse.Put(v)))
	e, why := engine.Open(d, word)
	if why != api.OK {
		t.Fatal(why)
	}
	var m model
	does(t, e, &m, apply(put("k", "v", 1)), flushed, apply(put("k", "v", 2)))
	for _, a := range []act{flushed, swept, install(api.Stamp{}, api.Stamp{})} {
		if why := a.do(e); why != api.ErrFull {
			t.Errorf("%s is %v", a.name, why)
		}
		holds(t, e, m)
	}
	does(t, e, &m, set(at(1, 0, 0), api.Stamp{}, false), apply(put("k", "v", 3)))
	e, why = engine.Open(d, word)
	if why != api.OK {
		t.Fatal(why)
	}
	holds(t, e, m)
}

// some: a mutation of few keys and few stamps, so that many of them meet.
func some(random *rand.Rand) api.Mut {
	key := []string{"a", "b", "c", "k", "aa", "zz"}[random.Intn(6)]
	m := put(key, strings.Repeat("v", random.Intn(5)), 1+random.Intn(30))
	m.At.Logic, m.At.Who = random.Intn(2), random.Intn(2)
	switch random.Intn(9) {
	case 0:
		m.Kind, m.Val, m.End = api.Wipe, "", key+"a"
	case 1, 2:
		m.Kind, m.Val = api.Del, ""
	case 3, 4:
		m.Table = api.Causal
		if m.At.Phys > 5 {
			m.Over = []api.Stamp{at(1+random.Intn(5), 0, 1)}
		}
	case 5:
		m.Expiry = 1 + random.Intn(30)
	case 6:
		m.At.Phys = random.Intn(2) - random.Intn(2)
	}
	return m
}

func anyAct(random *rand.Rand) act {
	one := func() api.Stamp {
		if random.Intn(9) == 0 {
			return at(-random.Intn(2), 0, random.Intn(2))
		}
		return at(random.Intn(30), random.Intn(2), 0)
	}
	switch random.Intn(12) {
	case 0:
		return set(one(), one(), random.Intn(2) == 0)
	case 1:
		var l []api.Mut
		for range random.Intn(12) {
			l = append(l, some(random))
		}
		return install(one(), one(), l...)
	case 2:
		return swept
	case 3:
		return flushed
	case 4:
		return tidied
	}
	return apply(some(random))
}

// P19.1 to P19.5: any calls, on disks whose power goes at any time (also while an engine is opened, and again soon), and that have little room.
func TestAgainstModel(t *testing.T) {
	random := rand.New(rand.NewSource(20))
	kinds := map[string]int{}
	for range 200 {
		d := disk.New(wide)
		e := open(t, d)
		var m model
		for range 120 {
			crashed, tight := d.Off(), false
			switch random.Intn(14) {
			case 0:
				d.Arm(random.Intn(12))
			case 1:
				more := random.Intn(2) * random.Intn(120)
				d.Room(d.Used() + more)
				tight = more == 0
			case 2, 3:
				d.Room(wide)
			case 4:
				d.Crash()
				crashed = true
			}
			a := anyAct(random)
			next, want := a.on(m)
			was := snap(d)
			why := a.do(e)
			kinds[a.name+" "+why.Error()]++
			switch {
			case want != api.OK && why != want:
				t.Fatalf("%s is %v, not %v", a.name, why, want)
			case why == want:
				if want == api.OK && tight && a.always(m, next) {
					t.Fatalf("without room %s is %v", a.name, why)
				}
				m = next
			case why == api.ErrFull:
				if snap(d) != was {
					t.Fatal("something is otherwise")
				}
			case why != api.ErrDown || !d.Off() || !e.Dead():
				t.Fatalf("%s is %v", a.name, why)
			}
			holds(t, e, m)
			if !d.Off() {
				fits(t, d, e)
				continue
			}
			if random.Intn(3) == 0 {
				d.Arm(random.Intn(5))
			}
			d.Up(random.Intn(200))
			e = open(t, d)
			if why == api.ErrDown && next.is(e) {
				m = next
			}
			if why == api.OK && want == api.OK && !crashed {
				t.Fatalf("the power went in %s", a.name)
			}
			holds(t, e, m)
			if !d.Off() {
				fits(t, d, e)
			}
		}
	}
	for _, name := range []string{"Apply", "Set", "Install", "Flush", "Sweep", "Tidy"} {
		for _, why := range []api.Errno{api.OK, api.ErrFull, api.ErrDown} {
			if kinds[name+" "+why.Error()] == 0 {
				t.Errorf("%s never was %v", name, why)
			}
		}
	}
}

// good is a disk with an engine's files: versions, a repaired table and another one, a log; and what they say.
func good(t *testing.T) (*disk.Disk, model) {
	t.Helper()
	d := disk.New(wide)
	e := open(t, d)
	var m model
	does(t, e, &m, install(at(5, 0, 0), at(3, 0, 0), put("a", "v", 5), put("b", "v", 4)), apply(put("k", "v", 9)), flushed, apply(put("c", "v", 10)), apply(wipe("aa", "b", 11)), set(at(4, 0, 0), at(7, 0, 0), true))
	return d, m
}

// P19.1: files that no engine makes, and such as the power leaves.
func TestForms(t *testing.T) {
	d, m := good(t)
	k := read(t, d)
	if len(k.v.Tabs) != 2 || len(k.log) != 2 {
		t.Fatal("the files are", k.names)
	}
	version := func(change func(v *verse.Version)) []byte {
		v := k.v
		v.Tabs = slices.Clone(v.Tabs)
		change(&v)
		return frame.Put(nil, verse.Put(v))
	}
	asIs := version(func(v *verse.Version) {})
	tab := table.Put(state.Of(put("x", "v", 1)))
	rec := frame.Put(nil, mut.Put(nil, put("x", "v", 1)))
	one := verse.Table(pre, k.v.Tabs[0].ID)
	other := verse.Table(pre, k.v.Tabs[1].ID)
	log := verse.Log(pre, k.v.Log)
	lost, _ := d.Read(one)
	type file struct {
		name string
		b    []byte // that take the place of the file's; nil: the file goes
	}
	behind := func(name string, b ...byte) file {
		was, _ := d.Read(name)
		return file{name, append(was, b...)}
	}
	for name, x := range map[string]struct {
		files []file
		want  bool
	}{
		"as they are":                           {nil, true},
		"a name without a kind":                 {[]file{{"r0-", []byte{1}}}, false},
		"a name of another kind":                {[]file{{"r0-x", []byte{1}}}, false},
		"another one":                           {[]file{{"r0-bases", asIs}}, false},
		"a name of great letters":               {[]file{{"r0-BASE", asIs}}, false},
		"a base with a number":                  {[]file{{"r0-base-1", asIs}}, false},
		"a fresh one with a number":             {[]file{{"r0-fresh-1", asIs}}, false},
		"a table without a number":              {[]file{{"r0-tab-", tab}}, false},
		"a table of a word":                     {[]file{{"r0-tab-x", tab}}, false},
		"a table with a nought ahead":           {[]file{{"r0-tab-01", tab}}, false},
		"a table 0":                             {[]file{{"r0-tab-0", tab}}, false},
		"a table below 0":                       {[]file{{"r0-tab--1", tab}}, false},
		"a log without a number":                {[]file{{"r0-log-", rec}}, false},
		"a log with a nought ahead":             {[]file{{"r0-log-00", rec}}, false},
		"a log of two numbers":                  {[]file{{"r0-log-0-0", rec}}, false},
		"a log below 0":                         {[]file{{"r0-log--0", rec}}, false},
		"no file of versions":                   {[]file{{"r0-base", nil}}, false},
		"one without a whole version":           {[]file{{"r0-base", asIs[:3]}}, false},
		"one of no bytes":                       {[]file{{"r0-base", []byte{}}}, false},
		"one of another thing":                  {[]file{{"r0-base", []byte("versions")}}, false},
		"one of an empty record":                {[]file{{"r0-base", []byte{0}}}, false},
		"one that ends with an empty record":    {[]file{behind("r0-base", 0)}, false},
		"another thing ahead of a version":      {[]file{{"r0-base", append([]byte{1, 1}, asIs...)}}, false},
		"a version alone":                       {[]file{{"r0-base", asIs}}, true},
		"a version ahead":                       {[]file{{"r0-base", append(version(func(v *verse.Version) { v.Log = 0; v.Tabs = nil }), asIs...)}}, true},
		"a part of a version behind":            {[]file{behind("r0-base", asIs[:7]...)}, true},
		"a byte of a version behind":            {[]file{behind("r0-base", asIs[0])}, true},
		"another thing behind":                  {[]file{behind("r0-base", 9, 1, 2, 128)}, false},
		"bytes behind that are read at once":    {[]file{behind("r0-base", append([]byte{99}, verse.Put(verse.Version{})...)...)}, false},
		"a needless byte behind":                {[]file{behind("r0-base", 128, 0)}, false},
		"the beginning of a number behind":      {[]file{behind("r0-base", 130)}, true},
		"a number that is too great behind":     {[]file{behind("r0-base", 192, 128, 129, 1)}, false},
		"a version that may not be":             {[]file{{"r0-base", version(func(v *verse.Version) { v.Next = 1 })}}, false},
		"a version with a byte more":            {[]file{{"r0-base", frame.Put(nil, append(verse.Put(k.v), 0))}}, false},
		"a table that isn't there":              {[]file{{one, nil}}, false},
		"another table that isn't there":        {[]file{{other, nil}}, false},
		"a table of no bytes":                   {[]file{{one, []byte{}}}, false},
		"a table that is cut":                   {[]file{{one, lost[:len(lost)-1]}}, false},
		"a table with a byte more":              {[]file{behind(one, 0)}, false},
		"a table of another thing":              {[]file{{other, []byte("table")}}, false},
		"a log of another thing":                {[]file{{log, []byte("log")}}, false},
		"a log that ends with an empty record":  {[]file{behind(log, 0)}, false},
		"a log with another thing":              {[]file{behind(log, 1, 1)}, false},
		"a log with a mutation that may not be": {[]file{behind(log, frame.Put(nil, mut.Put(nil, put("x", "v", 0)))...)}, false},
		"a log with a byte more in a record":    {[]file{behind(log, frame.Put(nil, append(mut.Put(nil, put("x", "v", 1)), 0))...)}, false},
		"a log with a part of a record":         {[]file{behind(log, rec[:5]...)}, true},
		"a log with the first byte of one":      {[]file{behind(log, rec[0])}, true},
		"a log with all of one but a byte":      {[]file{behind(log, rec[:len(rec)-1]...)}, true},
		"a log with a part of no record":        {[]file{behind(log, 60, 59, 1, 1, 1)}, false},
		"a log with a needless byte":            {[]file{behind(log, 128)}, false},
		"a fresh file of versions":              {[]file{{"r0-fresh", asIs}}, true},
		"a part of one":                         {[]file{{"r0-fresh", asIs[:9]}}, true},
		"one of a later version":                {[]file{{"r0-fresh", version(func(v *verse.Version) { v.Next++; v.Log = v.Next })}}, true},
		"a fresh one of another thing":          {[]file{{"r0-fresh", []byte("\x09\x80versions")}}, false},
		"a fresh one of another record":         {[]file{{"r0-fresh", []byte{1, 1}}}, false},
		"a log of the version ahead":            {[]file{{"r0-log-0", rec}}, true},
		"a part of one, ahead":                  {[]file{{"r0-log-0", append(slices.Clone(rec), rec[:3]...)}}, true},
		"one of another thing, ahead":           {[]file{{"r0-log-0", []byte("log")}}, false},
		"a log to come":                         {[]file{{verse.Log(pre, k.v.Log+1), rec}}, false},
		"a table of the version ahead":          {[]file{{verse.Table(pre, k.v.Log), tab}}, true},
		"the first table to come":               {[]file{{verse.Table(pre, k.v.Next+1), tab}}, true},
		"the second table to come":              {[]file{{verse.Table(pre, k.v.Next+2), tab}}, true},
		"a part of a table to come":             {[]file{{verse.Table(pre, k.v.Next+1), tab[:4]}}, true},
		"another thing as a table to come":      {[]file{{verse.Table(pre, k.v.Next+1), []byte("table")}}, false},
		"a table to come with a byte more":      {[]file{{verse.Table(pre, k.v.Next+1), append(slices.Clone(tab), 0)}}, false},
		"a table far off":                       {[]file{{verse.Table(pre, k.v.Next+3), tab}}, false},
		"a table with a great number":           {[]file{{"r0-tab-9999999999999", tab}}, false},
		"all that may be left":                  {[]file{{"r0-fresh", asIs[:2]}, {"r0-log-0", rec}, {verse.Table(pre, k.v.Next+1), tab}, {verse.Table(pre, k.v.Next+2), tab[:1]}}, true},
	} {
		d, _ := good(t)
		for _, f := range x.files {
			d.Delete(f.name)
			if f.b != nil {
				d.Append(f.name, f.b)
				d.Sync(f.name)
			}
		}
		was, ops := snap(d), d.Ops()
		e, why := engine.Open(d, pre)
		if !x.want {
			if e != nil || why != api.ErrForm || snap(d) != was || d.Ops() != ops {
				t.Errorf("%s: opened as %v, %v", name, e, why)
			}
			continue
		}
		if why != api.OK || !m.is(e) {
			t.Errorf("%s: opened as %v, %v", name, e, why)
			continue
		}
		fits(t, d, e)
		now := m
		does(t, e, &now, apply(put("c", "later", 20)), set(at(4, 0, 0), at(8, 0, 0), false))
		fits(t, d, e)
		does(t, e, &now, swept)
		holds(t, open(t, d), now)
	}
}

// P19.1: files that the power leaves of a new engine's first calls; a log may be there ahead of all versions, and numbers are those of an engine that had none.
func TestFormsOfNew(t *testing.T) {
	rec := frame.Put(nil, mut.Put(nil, put("x", "v", 1)))
	tab := table.Put(state.Of(put("y", "v", 1)))
	v := frame.Put(nil, verse.Put(verse.Version{Next: 2, Log: 2}))
	for name, x := range map[string]struct {
		files map[string][]byte
		c     state.Content
		why   api.Errno
	}{
		"a log":           {map[string][]byte{"r0-log-0": rec}, state.Of(put("x", "v", 1)), api.OK},
		"a part of a log": {map[string][]byte{"r0-log-0": rec[:4]}, state.Content{}, api.OK},
		"tables to come":  {map[string][]byte{"r0-tab-1": tab, "r0-tab-2": tab[:2], "r0-fresh": v}, state.Content{}, api.OK},
		"no version":      {map[string][]byte{"r0-base": v[:3]}, state.Content{}, api.ErrForm},
		"an empty file":   {map[string][]byte{"r0-base": nil}, state.Content{}, api.ErrForm},
		"another log":     {map[string][]byte{"r0-log-1": rec}, state.Content{}, api.ErrForm},
		"another table":   {map[string][]byte{"r0-tab-3": tab}, state.Content{}, api.ErrForm},
		"a table 0":       {map[string][]byte{"r0-tab-0": tab}, state.Content{}, api.ErrForm},
		"a log alike":     {map[string][]byte{"r0-base": v, "r0-log-2": rec}, state.Of(put("x", "v", 1)), api.OK},
		"64 tables":       {many(64, tab), state.Of(put("y", "v", 1)), api.OK},
		"65 tables":       {many(65, tab), state.Content{}, api.ErrForm},
	} {
		d := disk.New(wide)
		for name, b := range x.files {
			write(d, name, b)
		}
		e, why := engine.Open(d, pre)
		if why != x.why || (e != nil) != (why == api.OK) {
			t.Errorf("%s: opened as %v, %v", name, e, why)
		}
		if e != nil {
			m := model{c: x.c}
			holds(t, e, m)
			does(t, e, &m, apply(put("k", "v", 2)), apply(put("a", "v", 3)), flushed, swept)
			fits(t, d, e)
			holds(t, open(t, d), m)
		}
	}
}

// many: files of a version of so many tables that aren't repaired.
func many(n int, tab []byte) map[string][]byte {
	files := map[string][]byte{}
	v := verse.Version{Log: 0, Next: n}
	for i := range n {
		v.Tabs = append(v.Tabs, verse.Tab{ID: 1 + i})
		files[verse.Table(pre, 1+i)] = tab
	}
	files["r0-base"] = frame.Put(nil, verse.Put(v))
	return files
}
