package disk_test

import (
	"bytes"
	"math"
	"slices"
	"strconv"
	"strings"
	"testing"

	"cenotaph/api"
	"cenotaph/disk"
)

// has: a disk whose power is on has just these files: name, bytes, and so on.
func has(t *testing.T, d *disk.Disk, want ...string) {
	t.Helper()
	var l []string
	for name := range d.Names() {
		b, why := d.Read(name)
		if why != api.OK {
			t.Fatalf("Read of %s: %v", name, why)
		}
		l = append(l, name, string(b))
	}
	if !slices.Equal(l, want) {
		t.Fatalf("the files are %q, not %q", l, want)
	}
}

// does: an operation answers this.
func does(t *testing.T, why, want api.Errno) {
	t.Helper()
	if why != want {
		t.Fatalf("%v, not %v", why, want)
	}
}

// with: a disk of files (name, bytes, and so on) that are synced.
func with(t *testing.T, room int, files ...string) *disk.Disk {
	t.Helper()
	d := disk.New(room)
	for ; len(files) > 1; files = files[2:] {
		does(t, d.Append(files[0], []byte(files[1])), api.OK)
		does(t, d.Sync(files[0]), api.OK)
	}
	return d
}

// P11.1: a new disk.
func TestNew(t *testing.T) {
	for _, c := range []struct{ room, fits int }{{100, 100}, {1, 1}, {0, 0}, {-1, 0}, {math.MinInt, 0}, {math.MaxInt, 5000}} {
		d := disk.New(c.room)
		if d.Off() || d.Used() != 0 || d.Ops() != 0 {
			t.Errorf("New(%d): %v, %d, %d", c.room, d.Off(), d.Used(), d.Ops())
		}
		has(t, d)
		if c.room <= c.fits {
			does(t, d.Append("a", make([]byte, c.fits+1)), api.ErrFull)
		}
		does(t, d.Append("a", make([]byte, c.fits)), api.OK)
		if d.Used() != c.fits {
			t.Errorf("New(%d): %d bytes are used", c.room, d.Used())
		}
	}
}

// P11.1: room that changes; what is there stays.
func TestRoom(t *testing.T) {
	d := with(t, 5, "a", "abc", "b", "de")
	does(t, d.Append("b", []byte("f")), api.ErrFull)
	does(t, d.Append("c", []byte("f")), api.ErrFull)
	does(t, d.Append("c", nil), api.OK) // no bytes: these have room
	d.Room(6)
	does(t, d.Append("b", []byte("fg")), api.ErrFull)
	does(t, d.Append("b", []byte("f")), api.OK)
	for _, n := range []int{2, 0, -1, math.MinInt} {
		d.Room(n)
		has(t, d, "a", "abc", "b", "def", "c", "")
		if d.Used() != 6 {
			t.Errorf("%d bytes are used", d.Used())
		}
		does(t, d.Append("a", []byte("x")), api.ErrFull)
		does(t, d.Append("a", nil), api.ErrFull) // no bytes are more than the room less what is used
	}
	does(t, d.Delete("a"), api.OK)
	does(t, d.Delete("b"), api.OK)
	d.Room(-7) // none: as 0
	does(t, d.Append("c", nil), api.OK)
	does(t, d.Append("c", []byte("x")), api.ErrFull)
	d.Room(math.MaxInt)
	does(t, d.Append("c", []byte("x")), api.OK)
	has(t, d, "c", "x")
	d.Crash()
	d.Room(1)
	if d.Used() != 1 {
		t.Errorf("%d bytes are used", d.Used())
	}
	d.Up(1)
	does(t, d.Append("c", []byte("y")), api.ErrFull)
}

// P11.1: the files' names, rising, whatever the power is.
func TestNames(t *testing.T) {
	d := disk.New(10)
	for _, name := range []string{"b", "a-1", "\u00e9", "a", "B", "a10", "a2"} {
		does(t, d.Append(name, nil), api.OK)
	}
	want := []string{"B", "a", "a-1", "a10", "a2", "b", "\u00e9"}
	names := d.Names()
	for most := range len(want) + 1 {
		var l []string
		for name := range names {
			if len(l) == most {
				break
			}
			l = append(l, name)
		}
		if !slices.Equal(l, want[:most]) {
			t.Fatalf("the first %d names are %q", most, l)
		}
	}
	d.Crash()
	if l := slices.Collect(names); !slices.Equal(l, want) {
		t.Fatalf("without power the names are %q", l)
	}
	d.Up(0)
	if l := slices.Collect(names); len(l) != 0 {
		t.Fatalf("%q are there", l)
	}
	does(t, d.Append("z", nil), api.OK)
	does(t, d.Append("y", nil), api.OK)
	if l := slices.Collect(names); !slices.Equal(l, []string{"y", "z"}) {
		t.Fatalf("the names are %q", l)
	}
	for name := range names {
		does(t, d.Delete(name), api.OK)
	}
	if l := slices.Collect(names); len(l) != 0 {
		t.Fatalf("%q are there", l)
	}
}

// P11.1: a file's bytes.
func TestRead(t *testing.T) {
	d := with(t, 100, "a", "abc")
	does(t, d.Append("a", []byte("de")), api.OK)
	does(t, d.Append("empty", nil), api.OK)
	ops := d.Ops()
	for name, want := range map[string]string{"a": "abcde", "empty": ""} {
		if b, why := d.Read(name); string(b) != want || why != api.OK {
			t.Errorf("Read(%q) is %q, %v", name, b, why)
		}
	}
	for _, name := range []string{"b", "", "A", "-", "\xff", "a ", strings.Repeat("a", 100)} {
		if b, why := d.Read(name); len(b) != 0 || why != api.ErrNone {
			t.Errorf("Read(%q) is %q, %v", name, b, why)
		}
	}
	d.Arm(0)
	if b, why := d.Read("a"); string(b) != "abcde" || why != api.OK || d.Off() || d.Ops() != ops {
		t.Errorf("to read is an operation: %q, %v, %v", b, why, d.Off())
	}
	d.Crash()
	for _, name := range []string{"a", "b", ""} {
		if b, why := d.Read(name); len(b) != 0 || why != api.ErrDown {
			t.Errorf("Read(%q) without power is %q, %v", name, b, why)
		}
	}
}

// P11.2: names that are none, and those that are.
func TestAppendNames(t *testing.T) {
	d := with(t, 100, "a", "x")
	for _, name := range []string{"", "-a", "1", "_", "a b", "a.b", "a/b", "a\n", "\xff", "a\xff", strings.Repeat("a", 25)} {
		does(t, d.Append(name, []byte("y")), api.ErrText)
		does(t, d.Append(name, make([]byte, 1000)), api.ErrText)
		does(t, d.Rename("a", name), api.ErrText)
		does(t, d.Rename("none", name), api.ErrText)
		does(t, d.Rename(name, "b"), api.ErrNone)
		does(t, d.Sync(name), api.ErrNone)
		does(t, d.Delete(name), api.ErrNone)
	}
	has(t, d, "a", "x")
	for _, name := range []string{"A", "r3-log-12", "a_", "\u00e9", strings.Repeat("a", 24)} {
		does(t, d.Append(name, []byte("y")), api.OK)
		does(t, d.Delete(name), api.OK)
	}
	if d.Ops() != 2+10 {
		t.Errorf("%d operations", d.Ops())
	}
}

// P11.2: bytes at a file's end; what is handed in isn't kept, what is answered is new.
func TestAppend(t *testing.T) {
	d := disk.New(100)
	b := []byte("abc")
	does(t, d.Append("a", b), api.OK)
	b[0] = 'x'
	does(t, d.Append("a", b[:2]), api.OK)
	does(t, d.Append("b", b), api.OK)
	b[1] = 'x'
	does(t, d.Append("a", nil), api.OK)
	does(t, d.Append("a", []byte{}), api.OK)
	has(t, d, "a", "abcxb", "b", "xbc")
	if string(b) != "xxc" || d.Used() != 8 || d.Ops() != 5 {
		t.Errorf("%q, %d bytes, %d operations", b, d.Used(), d.Ops())
	}
	first, _ := d.Read("a")
	second, _ := d.Read("a")
	first[0] = 'z'
	_ = append(first[:1], "zzzz"...)
	does(t, d.Append("a", []byte("d")), api.OK)
	has(t, d, "a", "abcxbd", "b", "xbc")
	if string(second) != "abcxb" {
		t.Errorf("what was read is %q", second)
	}
}

// P11.2: the room to the last byte, and the files to the last one; ErrFull changes nothing.
func TestFull(t *testing.T) {
	d := with(t, 10, "a", "1234567")
	does(t, d.Append("a", []byte("8901")), api.ErrFull)
	does(t, d.Append("b", []byte("8901")), api.ErrFull)
	has(t, d, "a", "1234567")
	does(t, d.Append("a", []byte("890")), api.OK)
	does(t, d.Append("a", []byte("1")), api.ErrFull)
	does(t, d.Append("b", nil), api.OK)
	does(t, d.Append("b", []byte("1")), api.ErrFull)
	has(t, d, "a", "1234567890", "b", "")
	if d.Ops() != 4 {
		t.Errorf("%d operations", d.Ops())
	}

	d = disk.New(1000)
	for i := range api.MaxFiles {
		does(t, d.Append("f"+strconv.Itoa(i), []byte("x")), api.OK)
	}
	does(t, d.Append("g", nil), api.ErrFull)
	does(t, d.Append("g", []byte("x")), api.ErrFull)
	does(t, d.Append("0", nil), api.ErrText)
	does(t, d.Append("f7", []byte("y")), api.OK)
	does(t, d.Rename("f8", "g"), api.OK)
	does(t, d.Append("f8", nil), api.ErrFull)
	does(t, d.Rename("f9", "g"), api.OK)
	does(t, d.Append("f8", nil), api.OK)
	does(t, d.Append("f9", nil), api.ErrFull)
	does(t, d.Delete("g"), api.OK)
	does(t, d.Append("f9", nil), api.OK)
	does(t, d.Append("g", nil), api.ErrFull)
	if n := len(slices.Collect(d.Names())); n != 200 {
		t.Errorf("%d files", n)
	}
}

// P11.2: what is synced is there behind a crash, what isn't is not.
func TestSync(t *testing.T) {
	d := with(t, 100, "a", "abc", "c", "z")
	does(t, d.Sync("b"), api.ErrNone)
	does(t, d.Append("a", []byte("d")), api.OK)
	does(t, d.Append("b", []byte("x")), api.OK)
	does(t, d.Sync("b"), api.OK)
	does(t, d.Sync("b"), api.OK)
	does(t, d.Append("e", nil), api.OK)
	does(t, d.Sync("e"), api.OK)
	d.Crash()
	d.Up(0)
	has(t, d, "a", "abc", "b", "x", "c", "z")
	if d.Ops() != 10 {
		t.Errorf("%d operations", d.Ops())
	}
}

// P11.2: names that are changed: at once, with what is synced of a file, and what isn't.
func TestRename(t *testing.T) {
	d := with(t, 100, "a", "abc", "b", "other")
	does(t, d.Append("a", []byte("de")), api.OK)
	does(t, d.Rename("c", "d"), api.ErrNone)
	does(t, d.Rename("", "d"), api.ErrNone)
	does(t, d.Rename("c", "c"), api.ErrNone)
	does(t, d.Rename("c", "b"), api.ErrNone)
	has(t, d, "a", "abcde", "b", "other")
	does(t, d.Rename("a", "a"), api.OK)
	has(t, d, "a", "abcde", "b", "other")
	does(t, d.Rename("a", "b"), api.OK)
	has(t, d, "b", "abcde")
	if d.Used() != 5 {
		t.Errorf("%d bytes", d.Used())
	}
	does(t, d.Rename("b", "z"), api.OK)
	does(t, d.Append("b", []byte("new")), api.OK)
	does(t, d.Rename("z", strings.Repeat("z", 24)), api.OK)
	does(t, d.Rename(strings.Repeat("z", 24), strings.Repeat("z", 25)), api.ErrText)
	if d.Ops() != 5+5 {
		t.Errorf("%d operations", d.Ops())
	}
	d.Crash()
	d.Up(1)
	has(t, d, "b", "n", strings.Repeat("z", 24), "abcd")
}

// P11.2: files that are deleted are gone at once, and a new one of the name has nothing of them.
func TestDelete(t *testing.T) {
	d := with(t, 10, "a", "abc", "b", "defg")
	does(t, d.Delete("c"), api.ErrNone)
	does(t, d.Delete("a"), api.OK)
	does(t, d.Delete("a"), api.ErrNone)
	has(t, d, "b", "defg")
	if d.Used() != 4 || d.Ops() != 5 {
		t.Errorf("%d bytes, %d operations", d.Used(), d.Ops())
	}
	does(t, d.Append("a", []byte("xyzxyz")), api.OK)
	d.Crash()
	d.Up(2)
	has(t, d, "a", "xy", "b", "defg")
	does(t, d.Delete("b"), api.OK)
	d.Crash()
	d.Up(0)
	has(t, d, "a", "xy")
}

// P11.2, P11.3: without power all answer ErrDown, whatever else they were to answer, and nothing is an operation.
func TestDown(t *testing.T) {
	d := with(t, 4, "a", "abc")
	ops := d.Ops()
	d.Crash()
	for _, name := range []string{"a", "b", "", "-"} {
		does(t, d.Append(name, []byte("x")), api.ErrDown)
		does(t, d.Append(name, []byte("much more than that")), api.ErrDown)
		does(t, d.Sync(name), api.ErrDown)
		does(t, d.Rename("a", name), api.ErrDown)
		does(t, d.Rename(name, "c"), api.ErrDown)
		does(t, d.Delete(name), api.ErrDown)
	}
	if !d.Off() || d.Ops() != ops || d.Used() != 3 || !slices.Equal(slices.Collect(d.Names()), []string{"a"}) {
		t.Errorf("%v, %d operations, %d bytes", d.Off(), d.Ops(), d.Used())
	}
	d.Up(0)
	has(t, d, "a", "abc")
}

// P11.3: the power goes in an operation: an Append's bytes are there, of the others nothing is done.
func TestArm(t *testing.T) {
	for _, c := range []struct {
		name string
		do   func(d *disk.Disk) api.Errno
		used int
	}{
		{"append", func(d *disk.Disk) api.Errno { return d.Append("a", []byte("ef")) }, 7},
		{"append of nothing", func(d *disk.Disk) api.Errno { return d.Append("a", nil) }, 5},
		{"append to a new file", func(d *disk.Disk) api.Errno { return d.Append("c", []byte("yz")) }, 7},
		{"sync", func(d *disk.Disk) api.Errno { return d.Sync("a") }, 5},
		{"rename", func(d *disk.Disk) api.Errno { return d.Rename("a", "b") }, 5},
		{"rename to a new name", func(d *disk.Disk) api.Errno { return d.Rename("a", "c") }, 5},
		{"delete", func(d *disk.Disk) api.Errno { return d.Delete("b") }, 5},
	} {
		t.Run(c.name, func(t *testing.T) {
			for others := range 3 {
				d := with(t, 100, "a", "abc", "b", "x")
				does(t, d.Append("a", []byte("d")), api.OK)
				ops := d.Ops()
				d.Arm(others)
				does(t, d.Append("-", nil), api.ErrText) // these are no operations
				does(t, d.Append("a", make([]byte, 101)), api.ErrFull)
				does(t, d.Sync("none"), api.ErrNone)
				does(t, d.Rename("none", "a"), api.ErrNone)
				does(t, d.Delete("none"), api.ErrNone)
				for range others {
					does(t, d.Sync("b"), api.OK)
				}
				does(t, c.do(d), api.ErrDown)
				if !d.Off() || d.Ops() != ops+others+1 || d.Used() != c.used {
					t.Fatalf("%v, %d operations, %d bytes", d.Off(), d.Ops()-ops, d.Used())
				}
				does(t, c.do(d), api.ErrDown)
				if d.Used() != c.used || d.Ops() != ops+others+1 {
					t.Fatalf("%d operations, %d bytes", d.Ops()-ops, d.Used())
				}
				d.Up(0)
				has(t, d, "a", "abc", "b", "x") // what wasn't synced isn't kept, and the sync wasn't done
				does(t, d.Sync("a"), api.OK)    // it isn't armed any more
				does(t, d.Sync("a"), api.OK)
			}
		})
	}
}

// P11.3: all that wasn't synced may be kept.
func TestArmKeepsBytes(t *testing.T) {
	d := with(t, 100, "a", "abc")
	d.Arm(0)
	does(t, d.Append("a", []byte("def")), api.ErrDown)
	d.Up(3)
	has(t, d, "a", "abcdef")
	d.Arm(0)
	does(t, d.Append("n", []byte("xy")), api.ErrDown)
	d.Up(2)
	has(t, d, "a", "abcdef", "n", "xy")
	d.Arm(0)
	does(t, d.Append("e", nil), api.ErrDown)
	if l := slices.Collect(d.Names()); !slices.Equal(l, []string{"a", "e", "n"}) {
		t.Fatalf("%q: the file of no bytes isn't made", l)
	}
	d.Up(0)
	has(t, d, "a", "abcdef", "n", "xy")
}

// P11.3: armed below 0, once more, without power, and far ahead.
func TestArmAgain(t *testing.T) {
	for _, n := range []int{-1, -5, math.MinInt} { // none others
		d := with(t, 100, "a", "abc")
		d.Arm(n)
		does(t, d.Sync("a"), api.ErrDown)
	}
	d := with(t, 100, "a", "abc")
	d.Arm(0)
	d.Arm(2) // takes the place of the one ahead
	does(t, d.Sync("a"), api.OK)
	d.Arm(1)
	does(t, d.Sync("a"), api.OK)
	does(t, d.Sync("a"), api.ErrDown)
	d.Arm(1) // the power is off; what isn't an operation counts for nothing
	does(t, d.Sync("a"), api.ErrDown)
	does(t, d.Sync("a"), api.ErrDown)
	d.Up(0)
	does(t, d.Sync("a"), api.OK)
	does(t, d.Sync("a"), api.ErrDown)
	d.Up(0)
	d.Arm(math.MaxInt)
	for range 10 {
		does(t, d.Sync("a"), api.OK)
	}
	d.Crash() // it isn't armed any more
	d.Up(0)
	d.Arm(1)
	d.Crash()
	d.Up(0)
	for range 10 {
		does(t, d.Sync("a"), api.OK)
	}
	d.Crash()
	d.Arm(0)
	d.Crash() // nor of what came without power
	d.Up(0)
	does(t, d.Sync("a"), api.OK)
	d.Arm(0)
	d.Up(0) // the power is on: nothing
	does(t, d.Sync("a"), api.ErrDown)
}

// P11.3: what is left of what wasn't synced, modulo one more than that.
func TestUp(t *testing.T) {
	for _, c := range []struct {
		keep int
		want []string
	}{
		{0, []string{"a", "12"}}, {1, []string{"a", "123", "b", "x"}}, {2, []string{"a", "1234"}}, {3, []string{"a", "12345", "b", "x"}}, {4, []string{"a", "12"}}, {5, []string{"a", "123", "b", "x"}}, {7, []string{"a", "12345", "b", "x"}}, {8, []string{"a", "12"}},
		{-1, []string{"a", "12"}}, {-3, []string{"a", "12"}}, {math.MinInt, []string{"a", "12"}}, {math.MaxInt, []string{"a", "12345", "b", "x"}}, {math.MaxInt - 1, []string{"a", "1234"}},
	} {
		d := with(t, 100, "a", "12")
		does(t, d.Append("a", []byte("345")), api.OK)
		does(t, d.Append("b", []byte("x")), api.OK)
		does(t, d.Append("c", nil), api.OK)
		d.Up(0) // the power is on: nothing
		has(t, d, "a", "12345", "b", "x", "c", "")
		d.Crash()
		d.Crash()
		if !d.Off() || d.Used() != 6 {
			t.Fatalf("%v, %d bytes", d.Off(), d.Used())
		}
		d.Up(c.keep)
		if d.Off() {
			t.Fatal("the power is off")
		}
		has(t, d, c.want...)
		if n := len(strings.Join(c.want, "")) - len(c.want)/2; d.Used() != n {
			t.Errorf("Up(%d): %d bytes", c.keep, d.Used())
		}
		d.Crash() // what was left is synced
		d.Up(0)
		has(t, d, c.want...)
		does(t, d.Append("a", []byte("z")), api.OK)
		has(t, d, append([]string{"a", c.want[1] + "z"}, c.want[2:]...)...) // what was lost isn't behind it
	}
}

// P11.1: the bytes that are read are those of the file alone, also behind a crash.
func TestNothingBehind(t *testing.T) {
	d := with(t, 100, "a", "12")
	does(t, d.Append("a", []byte("345678")), api.OK)
	d.Crash()
	d.Up(1)
	b, _ := d.Read("a")
	if rest := b[len(b):cap(b)]; bytes.ContainsAny(rest, "45678") {
		t.Errorf("behind the bytes stand %q", rest)
	}
}
