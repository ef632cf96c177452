package disk_test

import (
	"math/rand"
	"slices"
	"strings"
	"testing"

	"cenotaph/api"
	"cenotaph/disk"
	"cenotaph/runes"
)

// model is a disk as plain as can be: files in rows, with each byte a mark whether it is synced.
type model struct {
	names         []string // rising
	bytes, synced [][]byte
	room, ops     int
	off           bool
	goes          []bool // of the operations to come, whether the power goes in it
}

func (m *model) used() int { return len(slices.Concat(m.bytes...)) }

// operate: does the power stay on in an operation?
func (m *model) operate() bool {
	m.ops++
	if len(m.goes) > 0 {
		m.off = m.goes[0]
		m.goes = m.goes[1:]
	}
	return !m.off
}

func (m *model) append(name string, b []byte) api.Errno {
	i, ok := slices.BinarySearch(m.names, name)
	if m.off {
		return api.ErrDown
	}
	if !runes.Key(name) {
		return api.ErrText
	}
	if !ok && len(m.names) == 200 || m.used()+len(b) > m.room {
		return api.ErrFull
	}
	if !ok {
		m.names, m.bytes, m.synced = slices.Insert(m.names, i, name), slices.Insert(m.bytes, i, nil), slices.Insert(m.synced, i, nil)
	}
	m.bytes[i] = slices.Concat(m.bytes[i], b)
	m.synced[i] = slices.Concat(m.synced[i], make([]byte, len(b)))
	if !m.operate() {
		return api.ErrDown
	}
	return api.OK
}

// find: a file's place, and why there is none.
func (m *model) find(name string) (int, api.Errno) {
	i, ok := slices.BinarySearch(m.names, name)
	if m.off {
		return 0, api.ErrDown
	}
	if !ok {
		return 0, api.ErrNone
	}
	return i, api.OK
}

// on does something with a file's place, in an operation.
func (m *model) on(name string, do func(i int)) api.Errno {
	i, why := m.find(name)
	if why != api.OK {
		return why
	}
	if !m.operate() {
		return api.ErrDown
	}
	do(i)
	return api.OK
}

func (m *model) drop(i int) {
	m.names, m.bytes, m.synced = slices.Delete(m.names, i, i+1), slices.Delete(m.bytes, i, i+1), slices.Delete(m.synced, i, i+1)
}

func (m *model) sync(name string) api.Errno {
	return m.on(name, func(i int) {
		for k := range m.synced[i] {
			m.synced[i][k] = 1
		}
	})
}

func (m *model) delete(name string) api.Errno { return m.on(name, m.drop) }

func (m *model) rename(from, to string) api.Errno {
	if !m.off && !runes.Key(to) {
		return api.ErrText
	}
	return m.on(from, func(i int) {
		b, s := m.bytes[i], m.synced[i]
		m.drop(i)
		if k, ok := slices.BinarySearch(m.names, to); ok {
			m.drop(k)
		}
		k, _ := slices.BinarySearch(m.names, to)
		m.names, m.bytes, m.synced = slices.Insert(m.names, k, to), slices.Insert(m.bytes, k, b), slices.Insert(m.synced, k, s)
	})
}

func (m *model) up(keep int) {
	if !m.off {
		return
	}
	m.off = false
	for i := len(m.names) - 1; i >= 0; i-- {
		firm := strings.Count(string(m.synced[i]), "\x01")
		n := firm + max(keep, 0)%(len(m.bytes[i])-firm+1)
		m.bytes[i], m.synced[i] = m.bytes[i][:n:n], slices.Repeat([]byte{1}, n)
		if n == 0 {
			m.drop(i)
		}
	}
}

func (m *model) arm(n int) {
	m.goes = append(make([]bool, max(n, 0)), true)
}

func (m *model) crash() { m.off, m.goes = true, nil }

// alike holds all that a disk tells against the model.
func alike(t *testing.T, d *disk.Disk, m *model) {
	t.Helper()
	if d.Off() != m.off || d.Ops() != m.ops || d.Used() != m.used() || !slices.Equal(slices.Collect(d.Names()), m.names) {
		t.Fatalf("%v, %d operations, %d bytes, %q; not %v, %d, %d, %q", d.Off(), d.Ops(), d.Used(), slices.Collect(d.Names()), m.off, m.ops, m.used(), m.names)
	}
	for _, name := range some {
		i, want := m.find(name)
		b, why := d.Read(name)
		if why != want || want == api.OK && string(b) != string(m.bytes[i]) || want != api.OK && len(b) != 0 {
			t.Fatalf("Read(%q) is %q, %v", name, b, why)
		}
	}
}

var some = []string{"a", "b", "c", "a-1", "\u00e9", "-", ""}

// P11.1 to P11.3, P2: any calls of a disk, against the model; a second disk, of which other calls were made meanwhile, counts for nothing.
func TestAgainstModel(t *testing.T) {
	random := rand.New(rand.NewSource(11))
	for range 5000 {
		room := random.Intn(40) - 2
		d, m, other := disk.New(room), &model{room: max(room, 0)}, disk.New(9)
		for range 60 {
			name, to, n := some[random.Intn(len(some))], some[random.Intn(len(some))], random.Intn(8)-1
			var why, want api.Errno
			switch random.Intn(14) {
			case 0, 1, 2, 3:
				b := []byte("abcdefgh")[:max(n, 0)]
				why, want = d.Append(name, b), m.append(name, b)
			case 4, 5:
				why, want = d.Sync(name), m.sync(name)
			case 6, 7:
				why, want = d.Rename(name, to), m.rename(name, to)
			case 8:
				why, want = d.Delete(name), m.delete(name)
			case 9:
				d.Arm(n)
				m.arm(n)
			case 10:
				d.Crash()
				m.crash()
			case 11, 12:
				d.Up(n)
				m.up(n)
			case 13:
				d.Room(6 * n)
				m.room = max(6*n, 0)
			}
			if why != want {
				t.Fatalf("%v, not %v", why, want)
			}
			alike(t, d, m)
			other.Append(name, []byte("other"))
			other.Crash()
			other.Up(n)
		}
	}
}
