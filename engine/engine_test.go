package engine_test

import (
	"bytes"
	"slices"
	"strconv"
	"strings"
	"testing"

	"cenotaph/api"
	"cenotaph/disk"
	"cenotaph/engine"
	"cenotaph/frame"
	"cenotaph/mut"
	"cenotaph/stamp"
	"cenotaph/state"
	"cenotaph/sweep"
	"cenotaph/table"
	"cenotaph/verse"
	"cenotaph/wire"
)

const (
	pre  = "r0"
	wide = 1 << 20
)

func at(phys, logic, who int) api.Stamp { return api.Stamp{Phys: phys, Logic: logic, Who: who} }

func put(key, val string, phys int) api.Mut {
	return api.Mut{Table: api.Last, Kind: api.Put, Key: key, Val: val, At: at(phys, 0, 0)}
}

func del(key string, phys int) api.Mut {
	return api.Mut{Table: api.Last, Kind: api.Del, Key: key, At: at(phys, 0, 0)}
}

func wipe(key, end string, phys int) api.Mut {
	return api.Mut{Table: api.Last, Kind: api.Wipe, Key: key, End: end, At: at(phys, 0, 0)}
}

func sib(key, val string, phys int, over ...api.Stamp) api.Mut {
	return api.Mut{Table: api.Causal, Kind: api.Put, Key: key, Val: val, At: at(phys, 0, 0), Over: over}
}

func same(a, b []api.Mut) bool { return slices.EqualFunc(a, b, mut.Same) }

// model is what an engine must tell.
type model struct {
	c                  state.Content
	floor, fence, seal api.Stamp
	quar               bool
}

// own: what a content has of a key, as the document words it.
func own(c state.Content, key string) state.Content {
	var o state.Content
	for _, m := range c.Cells {
		if m.Key == key {
			o.Cells = append(o.Cells, m)
		}
	}
	for _, m := range c.Wipes {
		if m.Key <= key && key < m.End {
			o.Wipes = append(o.Wipes, m)
		}
	}
	for _, m := range c.Sibs {
		if m.Key == key {
			o.Sibs = append(o.Sibs, m)
		}
	}
	return o
}

// is: does an engine tell just what a model says?
func (m model) is(e *engine.Engine) bool {
	for _, key := range []string{"", "a", "b", "c", "k", "aa", "zz", "\xff", "a!"} {
		if !state.Same(e.Find(key), own(m.c, key)) {
			return false
		}
	}
	return state.Same(e.Content(), m.c) && e.Floor() == m.floor && e.Fence() == m.fence && e.Seal() == m.seal && e.Quar() == m.quar
}

// tells: what an engine tells, for messages.
func tells(e *engine.Engine) model {
	return model{e.Content(), e.Floor(), e.Fence(), e.Seal(), e.Quar()}
}

func holds(t *testing.T, e *engine.Engine, m model) {
	t.Helper()
	if !m.is(e) {
		t.Fatalf("the engine has %v, not %v", tells(e), m)
	}
}

// act is a call, and what is to come of it.
type act struct {
	name string
	do   func(e *engine.Engine) api.Errno
	on   func(m model) (model, api.Errno)
}

func apply(x api.Mut) act {
	x = mut.Copy(x)
	return act{"Apply", func(e *engine.Engine) api.Errno { return e.Apply(x) }, func(m model) (model, api.Errno) {
		if !mut.Right(x) {
			return m, api.ErrMut
		}
		m.c = state.Of(append(m.c.All(), x)...)
		return m, api.OK
	}}
}

func may(l ...api.Stamp) bool {
	return !slices.ContainsFunc(l, func(s api.Stamp) bool { return s != api.Stamp{} && !stamp.Right(s) })
}

func set(floor, fence api.Stamp, quar bool) act {
	return act{"Set", func(e *engine.Engine) api.Errno { return e.Set(floor, fence, quar) }, func(m model) (model, api.Errno) {
		if !may(floor, fence) {
			return m, api.ErrForm
		}
		m.floor, m.fence, m.quar = floor, fence, quar
		return m, api.OK
	}}
}

func install(seal, floor api.Stamp, l ...api.Mut) act {
	return act{"Install", func(e *engine.Engine) api.Errno { return e.Install(seal, floor, state.Of(l...)) }, func(m model) (model, api.Errno) {
		if !may(seal, floor) {
			return m, api.ErrForm
		}
		m.c = state.Join(state.Of(l...).Upto(seal), m.c.Above(seal))
		m.seal, m.floor = seal, floor
		return m, api.OK
	}}
}

func stays(name string, do func(e *engine.Engine) api.Errno) act {
	return act{name, do, func(m model) (model, api.Errno) { return m, api.OK }}
}

var (
	flushed = stays("Flush", (*engine.Engine).Flush)
	tidied  = stays("Tidy", (*engine.Engine).Tidy)
	swept   = act{"Sweep", (*engine.Engine).Sweep, func(m model) (model, api.Errno) {
		m.c = sweep.Sweep(m.c, m.floor)
		return m, api.OK
	}}
)

// does makes a call that must answer what the model does.
func does(t *testing.T, e *engine.Engine, m *model, l ...act) {
	t.Helper()
	for i, a := range l {
		next, want := a.on(*m)
		if why := a.do(e); why != want {
			t.Fatalf("%d: %s is %v, not %v", i, a.name, why, want)
		}
		*m = next
		holds(t, e, *m)
	}
}

func open(t *testing.T, d *disk.Disk) *engine.Engine {
	t.Helper()
	e, why := engine.Open(d, pre)
	if e == nil || why != api.OK {
		t.Fatalf("nothing is opened: %v", why)
	}
	return e
}

// kept is what a disk's files say, read as the document words it.
type kept struct {
	v     verse.Version
	tabs  []state.Content // in the version's order
	log   []api.Mut
	base  int // bytes
	names []string
}

func read(t *testing.T, d *disk.Disk) kept {
	t.Helper()
	var k kept
	for name := range d.Names() {
		if strings.HasPrefix(name, pre+"-") {
			k.names = append(k.names, name)
		}
	}
	if b, why := d.Read(verse.Base(pre)); why == api.OK {
		rec, _ := frame.Last(b)
		v, why := verse.Get(rec)
		if why != api.OK {
			t.Fatal("the versions are", b)
		}
		k.v, k.base = v, len(b)
	}
	for _, x := range k.v.Tabs {
		b, _ := d.Read(verse.Table(pre, x.ID))
		tab, why := table.Open(b)
		if why != api.OK {
			t.Fatalf("the table %d is %v", x.ID, b)
		}
		c, _ := tab.All()
		k.tabs = append(k.tabs, c)
	}
	b, _ := d.Read(verse.Log(pre, k.v.Log))
	for rec := range frame.All(b) {
		m := mut.Get(wire.New(rec))
		if !mut.Right(m) {
			t.Fatal("in the log there is", rec)
		}
		k.log = append(k.log, m)
	}
	return k
}

// fits holds what an engine tells of its tables against its files; there are none that it doesn't need, and none that are great.
func fits(t *testing.T, d *disk.Disk, e *engine.Engine) kept {
	t.Helper()
	k := read(t, d)
	all := slices.Clone(k.log)
	repaired, below := 0, true
	bound := stamp.Max(k.v.Floor, k.v.Seal)
	for i, c := range k.tabs {
		all = append(all, c.All()...)
		if k.v.Tabs[i].Repaired {
			repaired++
			below = below && len(c.Above(bound).All()) == 0
		} else {
			below = below && len(c.Upto(bound).All()) == 0
		}
	}
	if n, r := e.Tables(); n != len(k.tabs) || r != repaired || n > engine.TabsMost {
		t.Fatalf("there are %d tables, %d repaired, in files %d, %d", n, r, len(k.tabs), repaired)
	}
	if e.Below() != below {
		t.Fatalf("Below is %v", e.Below())
	}
	m := model{state.Of(all...), k.v.Floor, k.v.Fence, k.v.Seal, k.v.Quar}
	if !m.is(e) {
		t.Fatalf("the engine has %v, its files %v", tells(e), m)
	}
	for _, name := range k.names {
		if !slices.Contains(append(k.v.Files(pre), verse.Base(pre)), name) {
			t.Fatalf("the file %q is needed by nobody", name)
		}
	}
	if k.base > engine.BaseMost {
		t.Fatalf("the versions have %d bytes", k.base)
	}
	return k
}

// P19.1: the disk's power, the word, a new engine.
func TestOpen(t *testing.T) {
	d := disk.New(wide)
	for word, want := range map[string]api.Errno{
		"r": api.OK, "r0": api.OK, "a1b2c3d4": api.OK, "z9": api.OK, "abcdefgh": api.OK, "a": api.OK, "zz": api.OK, "a00": api.OK,
		"": api.ErrText, "abcdefghi": api.ErrText, "a12345678": api.ErrText, "0": api.ErrText, "9r": api.ErrText, "R": api.ErrText, "rR": api.ErrText, "r-": api.ErrText, "-r": api.ErrText, "r_": api.ErrText, "\u00e9": api.ErrText, "r\u00e9": api.ErrText, "r\xff": api.ErrText, "r ": api.ErrText, "r0\x00": api.ErrText, "`": api.ErrText, "{": api.ErrText, "a/": api.ErrText, "a:": api.ErrText, "a`": api.ErrText, "a{": api.ErrText,
	} {
		e, why := engine.Open(d, word)
		if why != want || (e != nil) != (want == api.OK) {
			t.Errorf("Open of %q is %v, %v", word, e, why)
		}
		if e != nil {
			holds(t, e, model{})
		}
	}
	if d.Ops() != 0 || len(slices.Collect(d.Names())) != 0 {
		t.Error("a file is made")
	}
	e := open(t, d)
	holds(t, e, model{})
	if n, r := e.Tables(); n != 0 || r != 0 || e.Dead() || !e.Below() {
		t.Error("a new engine has", n, r, e.Dead(), e.Below())
	}
	if why := d.Append("r0-x", []byte{1}); why != api.OK {
		t.Fatal(why)
	}
	if e, why := engine.Open(d, "R0"); e != nil || why != api.ErrText {
		t.Error("without a word:", e, why)
	}
	d.Crash()
	for _, word := range []string{"r0", "R0", ""} {
		for _, x := range []*disk.Disk{d, nil} {
			if e, why := engine.Open(x, word); e != nil || why != api.ErrDown {
				t.Error("without power:", e, why)
			}
		}
	}
}

// P19.1: other files aren't looked at, and stay.
func TestOtherFiles(t *testing.T) {
	d := disk.New(wide)
	for _, name := range []string{"r0", "r", "r-base", "r-x", "r00-base", "r00-log-0", "r0x", "R0-base", "x-r0-base", "r0_base"} {
		d.Append(name, []byte("\xff\xff"))
		d.Sync(name)
	}
	names := slices.Collect(d.Names())
	e := open(t, d)
	var m model
	for i := range 40 {
		does(t, e, &m, apply(put("k"+strconv.Itoa(i%7), "v", 1+i)))
	}
	does(t, e, &m, install(at(3, 0, 0), at(2, 0, 0), put("a", "v", 1)), swept, tidied, flushed)
	for _, name := range names {
		if b, why := d.Read(name); why != api.OK || string(b) != "\xff\xff" {
			t.Errorf("%q is %q, %v", name, b, why)
		}
	}
	holds(t, open(t, d), m)
}

// script is calls of all kinds, among them such as make tables, merge them, and write the versions anew.
func script() []act {
	l := []act{set(at(0, 0, 1), api.Stamp{}, true), apply(put("a", "v", 3)), apply(put("a", "v", 3)), apply(wipe("a", "b", 2)), set(api.Stamp{}, at(2, 0, 0), false), flushed, apply(del("b", 9)), flushed, apply(sib("c", "x", 4)), apply(sib("c", "y", 7, at(4, 0, 0))), flushed, apply(put("k", "w", 11)), flushed, tidied}
	for i := range 10 {
		l = append(l, apply(put("k", strings.Repeat("v", i), 12+i)))
	}
	l = append(l, set(at(1, 0, 0), at(8, 0, 0), false), install(at(8, 0, 0), at(2, 0, 0), put("aa", "n", 5), del("a", 6), put("zz", "late", 9)), set(at(8, 0, 0), at(8, 0, 0), false), swept, apply(wipe("b", "zz", 30)), set(at(12, 0, 0), at(30, 0, 0), true), swept, set(at(12, 0, 0), at(30, 0, 0), true), tidied, flushed)
	for i := range 9 {
		l = append(l, apply(put("b", "u", 31+i)))
	}
	return append(l, install(at(33, 0, 0), at(40, 0, 0)), apply(put("c", "", 50)))
}

// P19.2 to P19.4: what comes of each call; what is there when the engine is opened once more, crash or not.
func TestScript(t *testing.T) {
	for _, crash := range []bool{false, true} {
		d := disk.New(wide)
		e := open(t, d)
		var m model
		for i, a := range script() {
			does(t, e, &m, a)
			fits(t, d, e)
			if crash {
				d.Crash()
				d.Up(i)
			}
			o := open(t, d)
			holds(t, o, m)
			fits(t, d, o)
			if crash {
				e = o
			}
		}
	}
}

// P19.2: what may not be.
func TestWrong(t *testing.T) {
	d := disk.New(wide)
	e := open(t, d)
	var m model
	does(t, e, &m, apply(put("a", "v", 1)), set(at(1, 0, 0), at(2, 0, 0), true))
	ops := d.Ops()
	no, odd := api.Stamp{}, at(0, -1, 0)
	table3, kind0 := put("a", "v", 2), put("a", "v", 2)
	table3.Table, kind0.Kind = 3, 0
	does(t, e, &m,
		apply(api.Mut{}), apply(put("", "v", 2)), apply(put("a", "v", 0)), apply(put("a", strings.Repeat("v", 65), 2)), apply(wipe("b", "a", 2)), apply(sib("a", "v", 2, at(2, 0, 0))), apply(table3), apply(kind0), apply(put("\xff", "v", 2)),
		set(odd, no, true), set(no, odd, true), set(at(api.MaxPhys+1, 0, 0), no, false), set(no, at(1, 0, api.MaxPhys+1), false),
		install(odd, no, put("a", "v", 1)), install(no, odd), install(at(1, api.MaxPhys+1, 0), no), install(no, at(-1, 0, 0)))
	if d.Ops() != ops {
		t.Error("something is written")
	}
	does(t, e, &m, set(at(api.MaxPhys, api.MaxPhys, api.MaxPhys), at(0, 0, 1), false), install(at(0, 1, 0), at(1, 0, 0)), set(no, no, false), install(no, no, put("b", "v", 1)))
	fits(t, d, e)
	holds(t, open(t, d), m)
}

// P19.2: contents that no function told are installed as what is left of them.
func TestInstallOddContents(t *testing.T) {
	d := disk.New(wide)
	e := open(t, d)
	l := []api.Mut{put("a", "v", 1), put("a", "w", 2), wipe("b", "c", 3), put("b", "v", 1), {}, put("c", "v", 0), put("c", "v", 9)}
	if why := e.Install(at(5, 0, 0), api.Stamp{}, state.Content{Cells: l, Wipes: l, Sibs: l}); why != api.OK {
		t.Fatal(why)
	}
	m := model{c: state.Of(l[1], l[2]), seal: at(5, 0, 0)}
	holds(t, e, m)
	holds(t, open(t, d), m)
}

// P19.2: Set writes where something is otherwise by it, and else nothing.
func TestSetTheSame(t *testing.T) {
	d := disk.New(wide)
	e := open(t, d)
	m := model{}
	does(t, e, &m, set(api.Stamp{}, api.Stamp{}, false))
	if d.Ops() != 0 {
		t.Error("the same is written")
	}
	for _, a := range []act{set(at(1, 0, 0), api.Stamp{}, false), set(at(1, 0, 0), at(1, 0, 0), false), set(at(1, 0, 0), at(1, 0, 0), true), set(api.Stamp{}, at(1, 0, 0), true)} {
		ops := d.Ops()
		does(t, e, &m, a)
		if d.Ops() == ops {
			t.Error("nothing is written")
		}
		ops = d.Ops()
		d.Room(0)
		does(t, e, &m, a)
		if d.Ops() != ops {
			t.Error("the same is written")
		}
		d.Room(wide)
	}
}

// P19.3: of what is nothing, nothing is made; that needs no room.
func TestNothingToDo(t *testing.T) {
	d := disk.New(0)
	e := open(t, d)
	var m model
	does(t, e, &m, flushed, tidied)
	if d.Ops() != 0 {
		t.Error("something is written")
	}
	d.Room(wide)
	for i := range 3 {
		does(t, e, &m, apply(put("a", "v", 1+i)), flushed)
	}
	ops := d.Ops()
	d.Room(0)
	does(t, e, &m, flushed, tidied)
	if d.Ops() != ops {
		t.Error("something is written")
	}
	fits(t, d, e)
}

func tables(t *testing.T, e *engine.Engine, all, repaired int) {
	t.Helper()
	if n, r := e.Tables(); n != all || r != repaired {
		t.Fatalf("there are %d tables, %d repaired, not %d, %d", n, r, all, repaired)
	}
}

// P19.3, P19.4: tables: a log becomes one, alike ones become one, what is swept or installed is in two of them.
func TestTables(t *testing.T) {
	d := disk.New(wide)
	e := open(t, d)
	var m model
	for i := range engine.LogMost - 1 {
		does(t, e, &m, apply(put("a", "v", 100+i)))
		tables(t, e, 0, 0)
	}
	does(t, e, &m, apply(put("a", "v", 200)))
	tables(t, e, 1, 0)
	for i := range 2 {
		does(t, e, &m, apply(wipe("b", "c", 300+i)), flushed, tidied)
		tables(t, e, 2+i, 0)
	}
	does(t, e, &m, apply(put("c", "v", 400)), flushed, flushed)
	tables(t, e, 4, 0)
	does(t, e, &m, tidied, apply(sib("a", "v", 2)))
	tables(t, e, 1, 0)
	does(t, e, &m, swept)
	tables(t, e, 1, 0)
	if !e.Below() {
		t.Error("Below is false")
	}
	does(t, e, &m, set(at(300, 0, 0), api.Stamp{}, false))
	if e.Below() {
		t.Error("Below is true")
	}
	does(t, e, &m, swept)
	tables(t, e, 2, 1)
	does(t, e, &m, install(at(301, 0, 0), at(1, 0, 0), put("b", "v", 5)))
	tables(t, e, 2, 1)
	does(t, e, &m, apply(put("k", "v", 500)), flushed, apply(put("k", "v", 501)), flushed, tidied)
	tables(t, e, 4, 1)
	does(t, e, &m, apply(put("k", "v", 502)), flushed, tidied)
	tables(t, e, 2, 1)
	does(t, e, &m, set(at(600, 0, 0), api.Stamp{}, false), swept)
	tables(t, e, 1, 1)
	does(t, e, &m, install(at(700, 0, 0), at(600, 0, 0)))
	tables(t, e, 0, 0)
	fits(t, d, e)
	does(t, e, &m, install(at(1, 0, 0), at(800, 0, 0), put("k", "v", 1)), apply(put("k", "v", 799)))
	tables(t, e, 1, 1)
	holds(t, open(t, d), m)
}

// P19.4: what a repaired table has above the floor and the seal, and others below, tell Below.
func TestBelow(t *testing.T) {
	for name, x := range map[string]struct {
		floor, seal  int
		repaired, un []api.Mut
		want         bool
	}{
		"as it is to be":                     {3, 5, []api.Mut{put("a", "v", 5), del("b", 1)}, []api.Mut{put("a", "v", 6)}, true},
		"with a later floor":                 {5, 3, []api.Mut{put("a", "v", 5), del("b", 1)}, []api.Mut{put("a", "v", 6)}, true},
		"a repaired one above":               {3, 5, []api.Mut{put("a", "v", 6), del("b", 1)}, []api.Mut{put("a", "v", 6)}, false},
		"a repaired wipe above":              {3, 5, []api.Mut{wipe("a", "b", 6), del("b", 1)}, nil, false},
		"a repaired one of a causal table":   {3, 5, []api.Mut{sib("a", "v", 6), del("b", 1)}, nil, false},
		"another one not above":              {3, 5, []api.Mut{put("a", "v", 5)}, []api.Mut{put("a", "v", 6), put("b", "v", 5)}, false},
		"another one not above a floor":      {5, 3, nil, []api.Mut{put("a", "v", 6), put("b", "v", 5)}, false},
		"another one above, without a floor": {0, 0, nil, []api.Mut{put("a", "v", 1)}, true},
		"a repaired one without a floor":     {0, 0, []api.Mut{put("a", "v", 1)}, nil, false},
		"of nothing":                         {5, 3, nil, nil, true},
	} {
		d := disk.New(wide)
		v := verse.Version{Log: 3, Next: 3, Tabs: []verse.Tab{{ID: 1, Repaired: true}, {ID: 2}}, Floor: at(x.floor, 0, 0), Seal: at(x.seal, 0, 0)}
		write(d, "r0-base", frame.Put(nil, verse.Put(v)))
		write(d, "r0-tab-1", table.Put(state.Of(x.repaired...)))
		write(d, "r0-tab-2", table.Put(state.Of(x.un...)))
		write(d, "r0-log-3", frame.Put(nil, mut.Put(nil, put("c", "v", 1))))
		e := open(t, d)
		if e.Below() != x.want {
			t.Errorf("%s: Below is %v", name, e.Below())
		}
		tables(t, e, 2, 1)
		fits(t, d, e)
	}
}

// write: a file that has just these bytes, all of which stay.
func write(d *disk.Disk, name string, b []byte) {
	d.Delete(name)
	d.Append(name, b)
	d.Sync(name)
}

// P19.2: versions come one behind the other, also those of engines that are opened once more, till their file is great.
func TestVersions(t *testing.T) {
	if engine.LogMost != 8 || engine.TabsMost != 16 || engine.BaseMost != 1000 {
		t.Error("the constants are", engine.LogMost, engine.TabsMost, engine.BaseMost)
	}
	d := disk.New(wide)
	var m model
	most, behind := 0, 0
	var was []byte
	for i := range 300 {
		e := open(t, d)
		does(t, e, &m, set(at(1+i, 0, 0), api.Stamp{}, i%2 == 0))
		fits(t, d, e)
		b, _ := d.Read(verse.Base(pre))
		if bytes.HasPrefix(b, was) {
			behind++
		}
		was = b
		most = max(most, len(b))
	}
	if most < engine.BaseMost/2 || behind < 250 {
		t.Errorf("versions take %d bytes at most, %d came behind others", most, behind)
	}
}

// P19.2: more wipes than a table takes stay all the same; there is no room for a table of them.
func TestManyWipes(t *testing.T) {
	d := disk.New(wide)
	e := open(t, d)
	var l []api.Mut
	for i := range api.MaxMuts + 1 {
		n := strconv.Itoa(1000 + i)
		l = append(l, wipe("k"+n, "k"+n+"a", 1+i))
		if why := e.Apply(l[i]); why != api.OK {
			t.Fatal(i, why)
		}
	}
	m := model{c: state.Of(l...)}
	for _, a := range []act{swept, install(api.Stamp{}, api.Stamp{})} {
		if why := a.do(e); why != api.ErrFull {
			t.Error(why)
		}
		holds(t, e, m)
	}
	holds(t, open(t, d), m)
}

// P19.2, P19.3: of very many calls files stay few, and small.
func TestFilesStayFew(t *testing.T) {
	d := disk.New(wide)
	e := open(t, d)
	var m model
	most := 0
	for i := range 1200 {
		x := put("k"+strconv.Itoa(i%3), "v", 1+i)
		next, _ := apply(x).on(m)
		if why := e.Apply(x); why != api.OK {
			t.Fatal(why)
		}
		m = next
		if i%7 == 0 {
			does(t, e, &m, set(api.Stamp{}, at(1+i, 0, 0), false))
		}
		if len(read(t, d).log) >= engine.LogMost {
			t.Fatal("the log is long")
		}
		n, _ := e.Tables()
		most = max(most, n)
		if i%50 == 0 {
			fits(t, d, e)
		}
	}
	if most != engine.TabsMost {
		t.Error("there are", most, "tables at most")
	}
	holds(t, open(t, d), m)
	if d.Used() > 4000 {
		t.Error("three keys take", d.Used(), "bytes")
	}
}

// P19.3: where there would be too many tables, those that aren't repaired become one; a repaired one stays.
func TestRepairedTableStays(t *testing.T) {
	d := disk.New(wide)
	e := open(t, d)
	var m model
	does(t, e, &m, install(at(5, 0, 0), at(1, 0, 0), put("a", "v", 5)))
	tables(t, e, 1, 1)
	for i := range engine.TabsMost - 1 {
		does(t, e, &m, apply(put("k"+strconv.Itoa(i), "v", 10+i)), flushed)
	}
	tables(t, e, engine.TabsMost, 1)
	does(t, e, &m, apply(put("k", "v", 50)), flushed)
	tables(t, e, 2, 1)
	fits(t, d, e)
	holds(t, open(t, d), m)
}

// P19.2: many records, also where a log's are all the same one.
func TestSameOnceMore(t *testing.T) {
	d := disk.New(wide)
	e := open(t, d)
	var m model
	for range 5*engine.LogMost - 1 {
		ops := d.Ops()
		does(t, e, &m, apply(put("a", "v", 1)))
		if d.Ops() == ops {
			t.Fatal("nothing is written")
		}
	}
	tables(t, e, 4, 0)
	if n := len(read(t, d).log); n != engine.LogMost-1 {
		t.Errorf("the log has %d records", n)
	}
	o := open(t, d)
	does(t, o, &m, apply(put("a", "v", 1)))
	tables(t, o, 5, 0)
}

// spoil writes over all that a list has, and what lies behind its length.
func spoil(lists ...[]api.Mut) {
	for _, l := range lists {
		for i := range l {
			over := l[i].Over[:cap(l[i].Over)]
			for j := range over {
				over[j] = at(99, 99, 99)
			}
			l[i].Key, l[i].Over = "spoilt", nil
		}
	}
}

// Rule 5: what is handed in isn't changed and isn't kept, what is answered is new memory.
func TestAnswersAreNew(t *testing.T) {
	d := disk.New(wide)
	e := open(t, d)
	var m model
	some := func() []api.Mut {
		return []api.Mut{sib("k", "v", 9, at(1, 0, 0), at(2, 0, 0)), sib("k", "w", 9, at(3, 0, 0)), put("k", "v", 3), wipe("a", "l", 2)}
	}
	for _, x := range some()[1:] {
		given := mut.Copy(x)
		does(t, e, &m, apply(x))
		if why := e.Apply(given); why != api.OK || !mut.Same(given, x) {
			t.Fatal("what was handed in became", given)
		}
		spoil([]api.Mut{given})
	}
	does(t, e, &m, flushed, apply(some()[0]))
	holds(t, e, m)
	for _, c := range []state.Content{e.Content(), e.Find("k"), e.Content()} {
		spoil(c.Cells, c.Wipes, c.Sibs)
	}
	holds(t, e, m)
	c := state.Of(some()...)
	if why := e.Install(at(9, 0, 0), at(1, 0, 0), c); why != api.OK || !state.Same(c, state.Of(some()...)) {
		t.Fatal("what was handed in became", c)
	}
	spoil(c.Cells, c.Wipes, c.Sibs)
	m = model{c: state.Of(some()...), seal: at(9, 0, 0), floor: at(1, 0, 0)}
	holds(t, e, m)
	spoil(e.Content().Sibs, e.Find("k").Sibs)
	holds(t, e, m)
	holds(t, open(t, d), m)
}

// P19.1, P19.5: engines of several words are on one disk, and know nothing of each other.
func TestSeveralWords(t *testing.T) {
	d := disk.New(wide)
	words := []string{"r", "r0", "r00", "q"}
	engines, models := map[string]*engine.Engine{}, map[string]model{}
	for round := range 40 {
		for i, w := range words {
			e := engines[w]
			if e == nil {
				o, why := engine.Open(d, w)
				if why != api.OK {
					t.Fatal(w, why)
				}
				e = o
			}
			m := models[w]
			does(t, e, &m, apply(put("k"+strconv.Itoa(round%5), w, 1+round)))
			if round%9 == i {
				does(t, e, &m, set(at(1+round/2, 0, 0), at(1+round, 0, 0), i%2 == 0), swept)
			}
			engines[w], models[w] = e, m
		}
		if round%10 == 9 {
			d.Crash()
			d.Up(round)
			clear(engines)
		}
	}
	for _, w := range words {
		e, why := engine.Open(d, w)
		if why != api.OK {
			t.Fatal(w, why)
		}
		holds(t, e, models[w])
	}
}

// P2: what else is done to another disk counts for nothing; the same calls leave the same files.
func TestSameCalls(t *testing.T) {
	var was []byte
	for range 3 {
		d, other := disk.New(wide), disk.New(wide)
		e, o := open(t, d), open(t, other)
		var m model
		for _, a := range script() {
			o.Apply(put("other", "v", 1))
			does(t, e, &m, a)
		}
		var all []byte
		for name := range d.Names() {
			b, _ := d.Read(name)
			all = append(append(all, name...), b...)
		}
		if was != nil && !bytes.Equal(was, all) {
			t.Error("the files are otherwise")
		}
		was = all
	}
}
