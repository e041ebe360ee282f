package disk_test

import (
	"bytes"
	"encoding/binary"
	"fmt"
	"math"
	"math/rand"
	"slices"
	"testing"

	"packsaddle/api"
	"packsaddle/disk"
)

// full is a sector of one byte alone.
func full(x byte) []byte { return bytes.Repeat([]byte{x}, 64) }

// data is a sector of which each byte is another one; of another number it is another one.
func data(n int) []byte {
	b := make([]byte, 64)
	binary.BigEndian.PutUint64(b, uint64(n))
	for i := 8; i < len(b); i++ {
		b[i] = byte(i*3 + n)
	}
	return b
}

// made is a new disk.
func made(sectors int) *disk.Disk {
	d, e := disk.New(sectors)
	if d == nil || e != api.OK {
		panic(e)
	}
	return d
}

// must gives up at what was refused.
func must(e api.Errno) {
	if e != api.OK {
		panic(e)
	}
}

// wait is a write that waits: its sector, and its bytes.
type wait struct {
	at   int
	data string
}

// model is a disk by another road: what is read is found by going over all that waits.
type model struct {
	lies  []string
	waits []wait
	left  int
}

// modelled is a new disk's.
func modelled(sectors int) *model {
	m := &model{left: -1}
	for range sectors {
		m.lies = append(m.lies, string(full(0)))
	}
	return m
}

// refused counts what is done, or tells that it isn't.
func (m *model) refused() bool {
	if m.left == 0 {
		return true
	}
	if m.left > 0 {
		m.left--
	}
	return false
}

func (m *model) write(at int, b []byte) api.Errno {
	switch {
	case len(b) != 64:
		return api.ErrArg
	case at < 0 || at >= len(m.lies):
		return api.ErrRange
	case m.refused():
		return api.ErrDisk
	}
	m.waits = append(m.waits, wait{at, string(b)})
	return api.OK
}

func (m *model) sync() api.Errno {
	if m.refused() {
		return api.ErrDisk
	}
	for _, w := range m.waits {
		m.lies[w.at] = w.data
	}
	m.waits = nil
	return api.OK
}

func (m *model) crash(keep []bool) api.Errno {
	for i, w := range m.waits {
		if i < len(keep) && keep[i] {
			m.lies[w.at] = w.data
		}
	}
	m.waits, m.left = nil, -1
	return api.OK
}

func (m *model) read(at int) string {
	s := m.lies[at]
	for _, w := range m.waits {
		if w.at == at {
			s = w.data
		}
	}
	return s
}

func (m *model) copied() *model {
	return &model{slices.Clone(m.lies), slices.Clone(m.waits), m.left}
}

// like tells whether two disks are, by another road.
func (m *model) like(o *model) bool {
	return slices.Equal(m.lies, o.lies) && slices.Equal(m.waits, o.waits) && m.left == o.left
}

// waiting is what Waits goes over.
func waiting(d *disk.Disk) [][2]int {
	var l [][2]int
	for number, at := range d.Waits() {
		l = append(l, [2]int{number, at})
	}
	return l
}

// wanted is what Waits is to go over.
func (m *model) wanted() [][2]int {
	var l [][2]int
	for i, w := range m.waits {
		l = append(l, [2]int{i, w.at})
	}
	return l
}

// as tells a fault if a disk isn't as its model. What is left of it is tried out on a copy.
func (m *model) as(t *testing.T, what string, d *disk.Disk) {
	t.Helper()
	if d.Len() != len(m.lies) {
		t.Fatalf("%s: Len %d, want %d", what, d.Len(), len(m.lies))
	}
	for at := range m.lies {
		if b, e := d.Lies(at); string(b) != m.lies[at] || e != api.OK {
			t.Fatalf("%s: Lies(%d) % x %v, want % x", what, at, b, e, m.lies[at])
		}
		if b, e := d.Read(at); string(b) != m.read(at) || e != api.OK {
			t.Fatalf("%s: Read(%d) % x %v, want % x", what, at, b, e, m.read(at))
		}
	}
	if l := waiting(d); !slices.Equal(l, m.wanted()) {
		t.Fatalf("%s: Waits %v, want %v", what, l, m.wanted())
	}
	c := d.Copy()
	for i := range 70 {
		want := api.OK
		if i >= m.left && m.left >= 0 {
			want = api.ErrDisk
		}
		if e := c.Write(0, full(1)); e != want {
			t.Fatalf("%s: write %d of a copy: %v, want %v", what, i, e, want)
		}
	}
}

// huge are numbers that are no sector's of a disk of so many.
func huge(sectors int) []int {
	return []int{-1, -2, -64, sectors, sectors + 1, sectors + 64, 1 << 16, 1 << 32, 1<<32 + 1, math.MaxInt32, math.MinInt32, math.MaxInt - 1, math.MaxInt, math.MinInt, math.MinInt + 1}
}

// wrongs are bytes that are not as many as a sector has.
func wrongs() [][]byte {
	l := [][]byte{nil, {}}
	for _, n := range []int{1, 2, 32, 62, 63, 65, 66, 128, 256, 1 << 16} {
		l = append(l, make([]byte, n))
	}
	return append(l, full(1)[:63], make([]byte, 63, 64))
}

// P11.1

func TestNew(t *testing.T) {
	for _, n := range []int{1, 2, 3, 4, 63, 64, 65, 200, 1000, 4095, 4096} {
		d, e := disk.New(n)
		if d == nil || e != api.OK {
			t.Fatalf("New(%d): %v %v", n, d, e)
		}
		modelled(n).as(t, fmt.Sprint("New ", n), d)
	}
	for _, n := range []int{0, -1, -4096, 4097, 4098, 1 << 16, 1 << 32, 1<<32 + 1, math.MaxInt, math.MinInt} {
		if d, e := disk.New(n); d != nil || e != api.ErrArg {
			t.Errorf("New(%d): %v %v", n, d, e)
		}
	}
}

func TestNewDisksAreApart(t *testing.T) {
	a, b := made(2), made(2)
	must(a.Write(0, data(1)))
	must(a.Sync())
	must(a.Write(1, data(2)))
	must(a.Arm(0))
	modelled(2).as(t, "another one", b)
}

func TestWriteWaits(t *testing.T) {
	const many = 5
	for at := range many {
		d, m := made(many), modelled(many)
		must(d.Write(at, data(at)))
		must(m.write(at, data(at)))
		m.as(t, fmt.Sprint("written ", at), d)
		if b, _ := d.Lies(at); !bytes.Equal(b, full(0)) {
			t.Errorf("Lies(%d): % x", at, b)
		}
		if b, _ := d.Read(at); !bytes.Equal(b, data(at)) {
			t.Errorf("Read(%d): % x", at, b)
		}
	}
}

func TestWriteOverWrite(t *testing.T) {
	d, m := made(3), modelled(3)
	for i, at := range []int{1, 1, 2, 1, 0, 2, 2, 1} {
		must(d.Write(at, data(i)))
		must(m.write(at, data(i)))
		m.as(t, fmt.Sprint("behind write ", i), d)
	}
	if l := waiting(d); !slices.Equal(l, [][2]int{{0, 1}, {1, 1}, {2, 2}, {3, 1}, {4, 0}, {5, 2}, {6, 2}, {7, 1}}) {
		t.Errorf("Waits: %v", l)
	}
	must(d.Sync())
	must(m.sync())
	m.as(t, "synced", d)
	// What was written last lies there: noughts, too.
	for _, b := range [][]byte{full(0), data(9), full(0)} {
		must(d.Write(1, b))
		must(m.write(1, b))
		m.as(t, "written over", d)
		must(d.Sync())
		must(m.sync())
		m.as(t, "synced over", d)
	}
}

func TestEachByteOfASectorCounts(t *testing.T) {
	d := made(1)
	for i := range 64 {
		b := full(0)
		b[i] = byte(i + 1)
		must(d.Write(0, b))
		r, e := d.Read(0)
		must(d.Sync())
		l, f := d.Lies(0)
		if !bytes.Equal(r, b) || !bytes.Equal(l, b) || e != api.OK || f != api.OK {
			t.Errorf("byte %d: % x %v, % x %v", i, r, e, l, f)
		}
	}
}

// busy is a disk of 4 of which some lies and some waits, and its model.
func busy() (*disk.Disk, *model) {
	d, m := made(4), modelled(4)
	write := func(at, n int) {
		must(d.Write(at, data(n)))
		must(m.write(at, data(n)))
	}
	write(0, 1)
	write(3, 2)
	must(d.Sync())
	must(m.sync())
	write(3, 3)
	write(1, 4)
	write(3, 5)
	return d, m
}

func TestWriteRefuses(t *testing.T) {
	d, m := busy()
	for _, left := range []int{-1, 3, 0} {
		must(d.Arm(left))
		m.left = left
		// The bytes come first, then the sector, and last of all that it fails.
		for _, b := range wrongs() {
			for _, at := range append(huge(4), 0, 1, 3) {
				if e := d.Write(at, b); e != api.ErrArg {
					t.Errorf("Write(%d, %d bytes), %d left: %v", at, len(b), left, e)
				}
			}
		}
		for _, at := range huge(4) {
			if e := d.Write(at, data(9)); e != api.ErrRange {
				t.Errorf("Write(%d), %d left: %v", at, left, e)
			}
		}
		m.as(t, "refused", d)
	}
	for at := range 4 {
		if e := d.Write(at, data(9)); e != api.ErrDisk {
			t.Errorf("Write(%d), failing: %v", at, e)
		}
	}
	m.as(t, "refused, failing", d)
}

func TestReadAndLiesRefuse(t *testing.T) {
	for _, n := range []int{1, 4, 4096} {
		d := made(n)
		for _, left := range []int{-1, 0} {
			must(d.Arm(left))
			for _, at := range huge(n) {
				if b, e := d.Read(at); b != nil || e != api.ErrRange {
					t.Errorf("Read(%d) of %d: % x %v", at, n, b, e)
				}
				if b, e := d.Lies(at); b != nil || e != api.ErrRange {
					t.Errorf("Lies(%d) of %d: % x %v", at, n, b, e)
				}
			}
		}
	}
}

func TestSync(t *testing.T) {
	d, m := busy()
	for i := range 3 {
		// A sync of nothing is one, too.
		if e := d.Sync(); e != api.OK {
			t.Errorf("Sync %d: %v", i, e)
		}
		must(m.sync())
		m.as(t, fmt.Sprint("synced ", i), d)
	}
	if l := waiting(d); len(l) != 0 {
		t.Errorf("Waits: %v", l)
	}
}

func TestSyncRefuses(t *testing.T) {
	d, m := busy()
	must(d.Arm(0))
	m.left = 0
	for range 3 {
		if e := d.Sync(); e != api.ErrDisk {
			t.Errorf("Sync: %v", e)
		}
		m.as(t, "refused", d)
	}
	must(d.Arm(-1))
	must(d.Sync())
	m.left = -1
	must(m.sync())
	m.as(t, "synced then", d)
}

func TestAllSectors(t *testing.T) {
	const many = api.MaxSectors
	d, m := made(many), modelled(many)
	for i := range many {
		at := (i*7 + 5) % many
		must(d.Write(at, data(at+1)))
		m.waits = append(m.waits, wait{at, string(data(at + 1))})
	}
	for at := range many {
		r, e := d.Read(at)
		l, f := d.Lies(at)
		if !bytes.Equal(r, data(at+1)) || !bytes.Equal(l, full(0)) || e != api.OK || f != api.OK {
			t.Fatalf("%d: % x %v, % x %v", at, r, e, l, f)
		}
	}
	if !slices.Equal(waiting(d), m.wanted()) {
		t.Error("Waits")
	}
	must(d.Sync())
	for at := range many {
		r, e := d.Read(at)
		l, f := d.Lies(at)
		if !bytes.Equal(r, data(at+1)) || !bytes.Equal(l, data(at+1)) || e != api.OK || f != api.OK {
			t.Fatalf("%d, synced: % x %v, % x %v", at, r, e, l, f)
		}
	}
}

func TestManyWritesWait(t *testing.T) {
	const many = 1 << 16
	d := made(2)
	for i := range many {
		must(d.Write(0, data(i)))
		if b, _ := d.Read(0); !bytes.Equal(b, data(i)) {
			t.Fatalf("Read, behind %d: % x", i, b)
		}
		if b, _ := d.Read(1); !bytes.Equal(b, full(0)) {
			t.Fatalf("Read of another one, behind %d: % x", i, b)
		}
	}
	c := d.Copy()
	must(d.Sync())
	if b, _ := d.Lies(0); !bytes.Equal(b, data(many-1)) || len(waiting(d)) != 0 {
		t.Errorf("Lies: % x", b)
	}
	keep := make([]bool, many)
	keep[many/3], keep[many/2] = true, true
	must(c.Crash(keep...))
	if b, _ := c.Lies(0); !bytes.Equal(b, data(many/2)) || len(waiting(c)) != 0 {
		t.Errorf("Lies, behind a crash: % x", b)
	}
}

// P11.2

// truths are all lists of so many.
func truths(n int) [][]bool {
	var l [][]bool
	for bits := range 1 << n {
		keep := make([]bool, n)
		for i := range keep {
			keep[i] = bits>>i&1 == 1
		}
		l = append(l, keep)
	}
	return l
}

func TestCrash(t *testing.T) {
	// Fewer truths than writes, as many, and more.
	for many := range 8 {
		for _, keep := range truths(many) {
			d, m := made(3), modelled(3)
			for i, at := range []int{2, 0, 2, 1, 0, 2} {
				if i == 1 {
					must(d.Sync())
					must(m.sync())
				}
				must(d.Write(at, data(i)))
				must(m.write(at, data(i)))
			}
			e, f := d.Crash(keep...), m.crash(keep)
			if e != f {
				t.Errorf("Crash(%v): %v", keep, e)
			}
			m.as(t, fmt.Sprint("Crash ", keep), d)
			if l := waiting(d); len(l) != 0 {
				t.Errorf("Crash(%v): Waits %v", keep, l)
			}
			// A second one finds nothing to keep.
			must(d.Crash(true, true, true, true, true, true))
			m.as(t, fmt.Sprint("Crash, behind ", keep), d)
		}
	}
}

func TestCrashOfManyTruths(t *testing.T) {
	d, m := busy()
	keep := slices.Repeat([]bool{true}, 1<<16)
	must(d.Crash(keep...))
	must(m.crash(keep))
	m.as(t, "Crash", d)
	d, m = busy()
	must(d.Crash(make([]bool, 1<<16)...))
	must(m.crash(nil))
	m.as(t, "Crash", d)
}

func TestCrashOfNothingThatWaits(t *testing.T) {
	d, m := made(2), modelled(2)
	for _, keep := range [][]bool{nil, {}, {false}, {true}, {true, true}} {
		must(d.Crash(keep...))
		m.as(t, "Crash of a new one", d)
	}
	must(d.Write(1, data(1)))
	must(d.Sync())
	must(m.write(1, data(1)))
	must(m.sync())
	for _, keep := range [][]bool{nil, {}, {false}, {true}, {true, true}} {
		must(d.Crash(keep...))
		m.as(t, "Crash of a synced one", d)
	}
}

func TestCrashKeepsInOrder(t *testing.T) {
	for _, c := range []struct {
		keep []bool
		want []byte
	}{
		{nil, data(9)}, {[]bool{true}, data(1)}, {[]bool{false, true}, data(2)}, {[]bool{true, true}, data(2)}, {[]bool{true, false, true}, data(3)},
		{[]bool{true, true, true}, data(3)}, {[]bool{false, false, true}, data(3)}, {[]bool{true, true, false}, data(2)}, {[]bool{false, false, false, true}, data(9)},
	} {
		d := made(1)
		must(d.Write(0, data(9)))
		must(d.Sync())
		for i := 1; i <= 3; i++ {
			must(d.Write(0, data(i)))
		}
		must(d.Crash(c.keep...))
		r, _ := d.Read(0)
		l, _ := d.Lies(0)
		if !bytes.Equal(r, c.want) || !bytes.Equal(l, c.want) {
			t.Errorf("Crash(%v): % x, % x", c.keep, r, l)
		}
	}
}

func TestCrashedDiskNeverFails(t *testing.T) {
	for _, left := range []int{-1, 0, 1, 2, 50} {
		d, m := busy()
		must(d.Arm(left))
		if e := d.Crash(true); e != api.OK {
			t.Errorf("Crash, %d left: %v", left, e)
		}
		must(m.crash([]bool{true}))
		m.as(t, fmt.Sprint("Crash, left ", left), d)
		for i := range 200 {
			if e := d.Write(i%4, data(i)); e != api.OK {
				t.Fatalf("write %d behind a crash, %d left: %v", i, left, e)
			}
			if e := d.Sync(); e != api.OK {
				t.Fatalf("sync %d behind a crash, %d left: %v", i, left, e)
			}
		}
	}
}

func TestArm(t *testing.T) {
	for left := range 12 {
		d := made(2)
		if e := d.Arm(left); e != api.OK {
			t.Errorf("Arm(%d): %v", left, e)
		}
		for i := range 20 {
			want := api.OK
			if i >= left {
				want = api.ErrDisk
			}
			var e api.Errno
			if i%3 == 1 {
				e = d.Sync()
			} else {
				e = d.Write(i%2, data(i))
			}
			if e != want {
				t.Errorf("%d of Arm(%d): %v, want %v", i, left, e, want)
			}
		}
	}
}

func TestArmWithLess(t *testing.T) {
	for _, left := range []int{-1, -2, -100, math.MinInt32, math.MinInt, math.MinInt + 1} {
		for _, ahead := range []int{-1, 0, 2} {
			d := made(1)
			must(d.Arm(ahead))
			if e := d.Arm(left); e != api.OK {
				t.Errorf("Arm(%d): %v", left, e)
			}
			for i := range 300 {
				if d.Write(0, data(i)) != api.OK || d.Sync() != api.OK {
					t.Fatalf("%d of Arm(%d)", i, left)
				}
			}
		}
	}
}

func TestArmWithMuch(t *testing.T) {
	for _, left := range []int{1 << 20, math.MaxInt32, math.MaxInt - 1, math.MaxInt} {
		d := made(1)
		must(d.Arm(left))
		for i := range 300 {
			if d.Write(0, data(i)) != api.OK || d.Sync() != api.OK {
				t.Fatalf("%d of Arm(%d)", i, left)
			}
		}
	}
}

func TestArmAnew(t *testing.T) {
	d := made(1)
	for _, left := range []int{3, 1, 0, 2, 0, 0, 5} {
		// It counts from where it was armed last, whatever was left.
		for _, ahead := range []int{0, 1, 7, -1} {
			must(d.Arm(ahead))
			d.Write(0, data(1))
			must(d.Arm(left))
			for i := range left {
				if e := d.Sync(); e != api.OK {
					t.Errorf("%d of Arm(%d) behind Arm(%d): %v", i, left, ahead, e)
				}
			}
			if e := d.Sync(); e != api.ErrDisk {
				t.Errorf("Sync behind Arm(%d) behind Arm(%d): %v", left, ahead, e)
			}
		}
	}
}

func TestOnlyWhatIsDoneCounts(t *testing.T) {
	d := made(2)
	must(d.Write(1, data(1)))
	must(d.Arm(2))
	idle := func() {
		d.Write(2, data(1))
		d.Write(-1, data(1))
		d.Write(0, data(1)[:63])
		d.Write(0, nil)
		d.Read(0)
		d.Read(9)
		d.Lies(0)
		d.Lies(9)
		d.Len()
		waiting(d)
		disk.Same(d, d.Copy())
		d.Copy().Sync()
	}
	for i := range 5 {
		idle()
		want := api.OK
		if i >= 2 {
			want = api.ErrDisk
		}
		var e api.Errno
		if i%2 == 0 {
			e = d.Write(0, data(i))
		} else {
			e = d.Sync()
		}
		if e != want {
			t.Errorf("%d: %v, want %v", i, e, want)
		}
	}
}

func TestFailingDiskIsRead(t *testing.T) {
	d, m := busy()
	must(d.Arm(0))
	m.left = 0
	m.as(t, "failing", d)
	if e := d.Arm(0); e != api.OK {
		t.Errorf("Arm: %v", e)
	}
	m.as(t, "failing", d)
}

func TestLies(t *testing.T) {
	d, m := busy()
	for at, want := range [][]byte{data(1), full(0), full(0), data(2)} {
		if b, e := d.Lies(at); !bytes.Equal(b, want) || e != api.OK {
			t.Errorf("Lies(%d): % x %v", at, b, e)
		}
	}
	for at, want := range [][]byte{data(1), data(4), full(0), data(5)} {
		if b, e := d.Read(at); !bytes.Equal(b, want) || e != api.OK {
			t.Errorf("Read(%d): % x %v", at, b, e)
		}
	}
	m.as(t, "busy", d)
}

// P11.3

func TestWaits(t *testing.T) {
	d, _ := busy()
	want := [][2]int{{0, 3}, {1, 1}, {2, 3}}
	all := d.Waits()
	for range 3 {
		var l [][2]int
		for number, at := range all {
			l = append(l, [2]int{number, at})
		}
		if !slices.Equal(l, want) {
			t.Errorf("Waits: %v", l)
		}
	}
	must(d.Sync())
	if l := waiting(d); len(l) != 0 {
		t.Errorf("Waits, synced: %v", l)
	}
	// The numbers begin anew then.
	must(d.Write(2, data(1)))
	if l := waiting(d); !slices.Equal(l, [][2]int{{0, 2}}) {
		t.Errorf("Waits, behind a sync: %v", l)
	}
	must(d.Crash())
	must(d.Write(1, data(1)))
	must(d.Write(0, data(1)))
	if l := waiting(d); !slices.Equal(l, [][2]int{{0, 1}, {1, 0}}) {
		t.Errorf("Waits, behind a crash: %v", l)
	}
}

func TestWaitsIsLeft(t *testing.T) {
	d := made(9)
	for at := range 9 {
		must(d.Write(8-at, data(at)))
	}
	all := d.Waits()
	for most := 1; most <= 9; most++ {
		var l [][2]int
		for number, at := range all {
			if l = append(l, [2]int{number, at}); len(l) == most {
				break
			}
		}
		if !slices.Equal(l, waiting(d)[:most]) {
			t.Errorf("Waits, left behind %d: %v", most, l)
		}
	}
	// One within another.
	n := 0
	for i := range all {
		for j := range all {
			n++
			if j == i {
				break
			}
		}
	}
	if n != 45 {
		t.Errorf("Waits within Waits: %d", n)
	}
}

func TestWaitsIsAsItWas(t *testing.T) {
	for what, change := range map[string]func(*disk.Disk){
		"write":       func(d *disk.Disk) { must(d.Write(0, data(7))) },
		"sync":        func(d *disk.Disk) { must(d.Sync()) },
		"crash":       func(d *disk.Disk) { must(d.Crash(true, false, true)) },
		"sync, write": func(d *disk.Disk) { must(d.Sync()); must(d.Write(0, data(7))); must(d.Write(2, data(8))) },
	} {
		d, m := busy()
		all := d.Waits()
		change(d)
		var l [][2]int
		for number, at := range all {
			l = append(l, [2]int{number, at})
		}
		if !slices.Equal(l, m.wanted()) {
			t.Errorf("Waits, behind %s: %v", what, l)
		}
		// In the midst of it, too.
		d, m = busy()
		l = nil
		for number, at := range d.Waits() {
			l = append(l, [2]int{number, at})
			change(d)
		}
		if !slices.Equal(l, m.wanted()) {
			t.Errorf("Waits, in the midst of %s: %v", what, l)
		}
	}
	// It isn't what waited when it is gone over.
	d := made(2)
	all := d.Waits()
	must(d.Write(1, data(1)))
	for number, at := range all {
		t.Errorf("Waits of a new one: %d %d", number, at)
	}
}

func TestLen(t *testing.T) {
	for _, n := range []int{1, 2, 64, 4096} {
		d := made(n)
		must(d.Write(n-1, data(1)))
		must(d.Arm(0))
		if d.Len() != n || d.Copy().Len() != n {
			t.Errorf("Len: %d of %d", d.Len(), n)
		}
		must(d.Crash())
		if d.Len() != n {
			t.Errorf("Len, behind a crash: %d of %d", d.Len(), n)
		}
	}
}

// changes are calls each of which makes another disk of a busy one that has some left.
func changes() map[string]func(*disk.Disk, *model) {
	return map[string]func(*disk.Disk, *model){
		"write":     func(d *disk.Disk, m *model) { must(d.Write(2, data(9))); must(m.write(2, data(9))) },
		"overwrite": func(d *disk.Disk, m *model) { must(d.Write(3, data(9))); must(m.write(3, data(9))) },
		"sync":      func(d *disk.Disk, m *model) { must(d.Sync()); must(m.sync()) },
		"crash":     func(d *disk.Disk, m *model) { must(d.Crash(true)); must(m.crash([]bool{true})) },
		"lose":      func(d *disk.Disk, m *model) { must(d.Crash()); must(m.crash(nil)) },
		"arm":       func(d *disk.Disk, m *model) { must(d.Arm(4)); m.left = 4 },
		"disarm":    func(d *disk.Disk, m *model) { must(d.Arm(-1)); m.left = -1 },
		"arm all":   func(d *disk.Disk, m *model) { must(d.Arm(0)); m.left = 0 },
		"sync, write": func(d *disk.Disk, m *model) {
			must(d.Sync())
			must(m.sync())
			must(d.Write(0, data(9)))
			must(m.write(0, data(9)))
		},
	}
}

func TestCopy(t *testing.T) {
	for what, change := range changes() {
		d, m := busy()
		must(d.Arm(9))
		m.left = 9
		c, n := d.Copy(), m.copied()
		if c == nil || c == d {
			t.Fatalf("Copy: %v", c)
		}
		n.as(t, "a copy", c)
		change(d, m)
		m.as(t, "behind "+what, d)
		n.as(t, "a copy, behind "+what, c)
		// The other way round, and the copy's copy.
		d, m = busy()
		c, n = d.Copy(), m.copied()
		x, y := c.Copy(), n.copied()
		change(c, n)
		m.as(t, "behind a copy's "+what, d)
		n.as(t, "a copy, behind its "+what, c)
		y.as(t, "a copy's copy, behind "+what, x)
		change(d, m)
		change(x, y)
		if !disk.Same(d, x) || !disk.Same(d, c) {
			t.Errorf("%s thrice: not the same", what)
		}
	}
}

func TestCopiesWaitApart(t *testing.T) {
	// What both write behind the same writes must not lie on the same place.
	for many := range 9 {
		d, m := made(3), modelled(3)
		for i := range many {
			must(d.Write(i%2, data(i)))
			must(m.write(i%2, data(i)))
		}
		c, n := d.Copy(), m.copied()
		must(d.Write(1, data(20)))
		must(m.write(1, data(20)))
		must(c.Write(2, data(21)))
		must(n.write(2, data(21)))
		m.as(t, "one", d)
		n.as(t, "the other one", c)
		must(d.Sync())
		must(m.sync())
		m.as(t, "one, synced", d)
		n.as(t, "the other one, one synced", c)
		must(c.Sync())
		must(n.sync())
		n.as(t, "the other one, synced", c)
	}
}

// same asks both ways round.
func same(t *testing.T, what string, a, b *disk.Disk, want bool) {
	t.Helper()
	if disk.Same(a, b) != want || disk.Same(b, a) != want {
		t.Errorf("Same, %s: %v %v, want %v", what, disk.Same(a, b), disk.Same(b, a), want)
	}
}

func TestSame(t *testing.T) {
	a, _ := busy()
	b, _ := busy()
	same(t, "itself", a, a, true)
	same(t, "made alike", a, b, true)
	same(t, "a copy", a, a.Copy(), true)
	for what, change := range changes() {
		d, m := busy()
		must(d.Arm(9))
		m.left = 9
		c := d.Copy()
		change(d, m)
		same(t, "behind "+what, c, d, false)
	}
	for i := range 12 {
		for j := range 12 {
			same(t, "sizes", made(i+1), made(j+1), i == j)
		}
	}
	same(t, "great ones", made(4096), made(4095), false)
	same(t, "great ones", made(4096), made(4096), true)
}

func TestSameBytesLie(t *testing.T) {
	for at := range 3 {
		for i := range 64 {
			a, b := made(3), made(3)
			x := full(0)
			x[i] = 1
			must(a.Write(at, x))
			must(a.Sync())
			same(t, "a byte", a, b, false)
			must(b.Write(at, x))
			must(b.Sync())
			same(t, "the byte", a, b, true)
			x[i] = 2
			must(b.Write(at, x))
			must(b.Sync())
			same(t, "another byte", a, b, false)
		}
	}
	// Noughts that were written are those that lay there.
	a, b := made(2), made(2)
	must(a.Write(1, full(0)))
	must(a.Sync())
	same(t, "noughts", a, b, true)
	must(a.Write(0, data(1)))
	must(a.Sync())
	must(a.Write(0, full(0)))
	must(a.Sync())
	same(t, "noughts again", a, b, true)
	// How the bytes came to lie there doesn't matter.
	must(a.Write(0, data(1)))
	must(a.Write(1, data(2)))
	must(a.Sync())
	must(b.Write(1, data(2)))
	must(b.Write(0, data(3)))
	must(b.Write(0, data(1)))
	must(b.Crash(true, false, true))
	same(t, "another way", a, b, true)
	a, b = made(4096), made(4096)
	must(a.Write(4095, data(1)))
	must(a.Sync())
	same(t, "the last sector", a, b, false)
}

func TestSameWritesWait(t *testing.T) {
	// What waits is told by a list of sectors and numbers of data.
	type step struct{ at, n int }
	lists := [][]step{{}, {{0, 1}}, {{0, 2}}, {{1, 1}}, {{0, 1}, {0, 1}}, {{0, 1}, {0, 2}}, {{0, 2}, {0, 1}}, {{0, 1}, {1, 1}}, {{1, 1}, {0, 1}}, {{0, 3}, {0, 1}}, {{0, 1}, {1, 2}, {0, 1}}, {{1, 2}, {0, 1}, {0, 1}}, {{0, 1}, {0, 1}, {1, 2}}}
	written := func(l []step) *disk.Disk {
		d := made(2)
		for _, x := range l {
			must(d.Write(x.at, data(x.n)))
		}
		return d
	}
	for i, l := range lists {
		for j, k := range lists {
			same(t, fmt.Sprint(l, k), written(l), written(k), i == j)
		}
	}
	// What waits isn't what lies, though the same is read.
	a, b := written(lists[1]), written(lists[1])
	must(b.Sync())
	same(t, "waits, lies", a, b, false)
	must(b.Write(0, data(1)))
	same(t, "waits, lies and waits", a, b, false)
	must(a.Crash(true))
	must(b.Sync())
	same(t, "lies", a, b, true)
	// A write of what is read already waits, too.
	a, b = made(2), made(2)
	must(a.Write(0, full(0)))
	same(t, "noughts wait", a, b, false)
	x := data(1)
	x[63]++
	a, b = made(2), made(2)
	must(a.Write(0, data(1)))
	must(b.Write(0, x))
	same(t, "the last byte waits", a, b, false)
}

func TestSameFail(t *testing.T) {
	armed := func(n int) *disk.Disk {
		d := made(2)
		must(d.Arm(n))
		return d
	}
	for i := -1; i < 6; i++ {
		for j := -1; j < 6; j++ {
			same(t, fmt.Sprint("armed ", i, j), armed(i), armed(j), i == j)
		}
	}
	// All that never fail do so alike.
	for _, n := range []int{-1, -2, -77, math.MinInt} {
		same(t, fmt.Sprint("armed ", n), armed(n), made(2), true)
		same(t, fmt.Sprint("armed ", n), armed(n), armed(-5), true)
		same(t, fmt.Sprint("armed ", n), armed(n), armed(0), false)
	}
	same(t, "much", armed(math.MaxInt), armed(math.MaxInt-1), false)
	same(t, "much", armed(math.MaxInt), armed(-1), false)
	// It is what is left that counts.
	d := armed(3)
	must(d.Sync())
	same(t, "one done", d, armed(2), true)
	same(t, "one done", d, armed(3), false)
	d.Write(5, data(1))
	same(t, "one refused", d, armed(2), true)
	must(d.Sync())
	must(d.Sync())
	d.Sync()
	same(t, "all done", d, armed(0), true)
	must(d.Crash())
	same(t, "crashed", d, made(2), true)
}

// P11.4

func TestWhatWasSyncedIsReadBehindAnyCrash(t *testing.T) {
	chance := rand.New(rand.NewSource(3))
	for range 300 {
		d := made(4)
		var synced [4][]byte
		for at := range synced {
			synced[at] = full(0)
			if chance.Intn(4) > 0 {
				synced[at] = data(100 + chance.Intn(100))
				must(d.Write(at, synced[at]))
			}
		}
		must(d.Sync())
		over := map[int][][]byte{}
		many := chance.Intn(6)
		for range many {
			at, b := chance.Intn(3), data(chance.Intn(100))
			over[at] = append(over[at], b)
			must(d.Write(at, b))
		}
		// It may fail first, or refuse something.
		if chance.Intn(2) == 0 {
			must(d.Arm(0))
			d.Write(3, data(1))
			d.Sync()
		}
		d.Write(4, data(1))
		d.Write(3, data(1)[:9])
		for _, keep := range truths(many) {
			c := d.Copy()
			must(c.Crash(keep...))
			for at := range synced {
				b, _ := c.Read(at)
				l, _ := c.Lies(at)
				is := func(x []byte) bool { return bytes.Equal(x, b) }
				if !bytes.Equal(b, l) || !is(synced[at]) && !slices.ContainsFunc(over[at], is) {
					t.Fatalf("Crash(%v), sector %d: % x, % x", keep, at, b, l)
				}
				if len(over[at]) == 0 && !is(synced[at]) {
					t.Fatalf("Crash(%v), sector %d that none went over: % x", keep, at, b)
				}
			}
			if len(waiting(c)) != 0 {
				t.Fatalf("Crash(%v): Waits %v", keep, waiting(c))
			}
		}
	}
}

func TestRefusedChangesNothing(t *testing.T) {
	for _, left := range []int{-1, 0, 1, 5} {
		d, m := busy()
		must(d.Arm(left))
		m.left = left
		c := d.Copy()
		for _, b := range wrongs() {
			d.Write(0, b)
			d.Write(-1, b)
		}
		for _, at := range huge(4) {
			d.Write(at, data(1))
			d.Read(at)
			d.Lies(at)
		}
		if left == 0 {
			d.Write(0, data(1))
			d.Sync()
		}
		same(t, "behind what was refused", c, d, true)
		m.as(t, "behind what was refused", d)
	}
}

// step does any one thing to a disk and to its model, and tells what.
func step(t *testing.T, chance *rand.Rand, d *disk.Disk, m *model) string {
	t.Helper()
	var e, want api.Errno
	var what string
	switch n := chance.Intn(20); {
	case n < 10:
		at, b := chance.Intn(len(m.lies)), data(chance.Intn(40))
		what = fmt.Sprint("Write ", at)
		e, want = d.Write(at, b), m.write(at, b)
	case n < 12:
		at, b := chance.Intn(len(m.lies)+4)-2, make([]byte, 62+chance.Intn(4))
		what = fmt.Sprint("Write ", at, " of ", len(b))
		e, want = d.Write(at, b), m.write(at, b)
	case n < 16:
		what = "Sync"
		e, want = d.Sync(), m.sync()
	case n < 18:
		keep := make([]bool, chance.Intn(len(m.waits)+3))
		for i := range keep {
			keep[i] = chance.Intn(2) == 0
		}
		what = fmt.Sprint("Crash ", keep)
		e, want = d.Crash(keep...), m.crash(keep)
	default:
		left := chance.Intn(12) - 2
		what = fmt.Sprint("Arm ", left)
		e = d.Arm(left)
		m.left = max(-1, left)
	}
	if e != want {
		t.Fatalf("%s: %v, want %v", what, e, want)
	}
	return what
}

func TestAnyCalls(t *testing.T) {
	for seed := range int64(60) {
		chance := rand.New(rand.NewSource(seed))
		sectors := 1 + chance.Intn(6)
		d, m := made(sectors), modelled(sectors)
		disks, models := []*disk.Disk{d}, []*model{m}
		for range 150 {
			what := step(t, chance, d, m)
			m.as(t, what, d)
			if chance.Intn(10) == 0 {
				disks, models = append(disks, d.Copy()), append(models, m.copied())
			}
			i := chance.Intn(len(disks))
			d, m = disks[i], models[i]
		}
		for i := range disks {
			models[i].as(t, "at the end", disks[i])
			for j := range disks {
				same(t, "at the end", disks[i], disks[j], models[i].like(models[j]))
			}
		}
	}
}

// The rules that hold everywhere.

func TestNoDisk(t *testing.T) {
	var zero disk.Disk
	for what, d := range map[string]*disk.Disk{"nil": nil, "zero": &zero} {
		// That there is none comes ahead of all else.
		for _, at := range append(huge(0), 0, 1) {
			for _, b := range append(wrongs(), data(1)) {
				if e := d.Write(at, b); e != api.ErrNil {
					t.Errorf("%s: Write(%d, %d bytes): %v", what, at, len(b), e)
				}
			}
			if b, e := d.Read(at); b != nil || e != api.ErrNil {
				t.Errorf("%s: Read(%d): % x %v", what, at, b, e)
			}
			if b, e := d.Lies(at); b != nil || e != api.ErrNil {
				t.Errorf("%s: Lies(%d): % x %v", what, at, b, e)
			}
			if e := d.Arm(at); e != api.ErrNil {
				t.Errorf("%s: Arm(%d): %v", what, at, e)
			}
		}
		for _, keep := range [][]bool{nil, {}, {true}, {false, true}} {
			if e := d.Crash(keep...); e != api.ErrNil {
				t.Errorf("%s: Crash(%v): %v", what, keep, e)
			}
		}
		if e := d.Sync(); e != api.ErrNil {
			t.Errorf("%s: Sync: %v", what, e)
		}
		if d.Waits() == nil || len(waiting(d)) != 0 {
			t.Errorf("%s: Waits: %v", what, waiting(d))
		}
		if d.Len() != 0 || d.Copy() != nil {
			t.Errorf("%s: Len %d, Copy %v", what, d.Len(), d.Copy())
		}
		same(t, what, d, nil, true)
		same(t, what, d, &disk.Disk{}, true)
		same(t, what, d, d, true)
		same(t, what, d, made(1), false)
		armed := made(1)
		must(armed.Arm(0))
		same(t, what, d, armed, false)
	}
	refused, _ := disk.New(0)
	if e := refused.Sync(); e != api.ErrNil {
		t.Errorf("Sync of a disk that was refused: %v", e)
	}
}

func TestBytesAreNotChangedAndNotKept(t *testing.T) {
	room := append(data(1), 1, 2, 3, 4, 5, 6, 7, 8)
	own := bytes.Clone(room)
	d, m := made(2), modelled(2)
	must(d.Write(0, room[:64]))
	must(m.write(0, room[:64]))
	must(d.Write(1, data(2)))
	must(m.write(1, data(2)))
	if !bytes.Equal(room, own) {
		t.Errorf("Write changed % x to % x", own, room)
	}
	clear(room)
	m.as(t, "behind a change", d)
	must(d.Sync())
	must(m.sync())
	m.as(t, "synced, behind a change", d)
	must(d.Write(0, data(5)))
	if !bytes.Equal(room, make([]byte, 72)) {
		t.Errorf("a later Write changed what was handed in: % x", room)
	}
}

func TestTruthsAreNotChanged(t *testing.T) {
	room := []bool{true, false, true, false, true}
	own := slices.Clone(room)
	d, m := busy()
	must(d.Crash(room[:2]...))
	must(m.crash(own[:2]))
	clear(room[:2])
	m.as(t, "crashed", d)
	if !slices.Equal(room[2:], own[2:]) {
		t.Errorf("Crash changed %v to %v", own, room)
	}
	d, _ = busy()
	room = slices.Clone(own)
	must(d.Crash(room[:4]...))
	if !slices.Equal(room, own) {
		t.Errorf("Crash changed %v to %v", own, room)
	}
}

func TestAnswersAreNewMemory(t *testing.T) {
	d, m := busy()
	for at := range 4 {
		for _, tell := range []func(int) ([]byte, api.Errno){d.Read, d.Lies} {
			a, _ := tell(at)
			b, _ := tell(at)
			was := bytes.Clone(b)
			// The room behind it, too.
			_ = append(a, 9, 9, 9, 9)
			a = a[:cap(a)]
			for i := range a {
				a[i] = 0xee
			}
			if !bytes.Equal(b, was) {
				t.Errorf("sector %d, behind a change of another answer: % x", at, b)
			}
			m.as(t, "behind a change of an answer", d)
		}
	}
	// What was told stays as it was, whatever is done then.
	a, _ := d.Read(3)
	b, _ := d.Lies(3)
	must(d.Write(3, data(30)))
	must(d.Sync())
	must(d.Crash())
	if !bytes.Equal(a, data(5)) || !bytes.Equal(b, data(2)) {
		t.Errorf("told ahead: % x, % x", a, b)
	}
}

// The chapter's examples, of a disk of 4.

func TestExamples(t *testing.T) {
	a, b, c := full('a'), full('b'), full('c')
	read := func(what string, tell func(int) ([]byte, api.Errno), at int, want []byte) {
		t.Helper()
		if s, e := tell(at); !bytes.Equal(s, want) || e != api.OK {
			t.Errorf("%s(%d): % x %v, want % x", what, at, s, e, want)
		}
	}
	d := made(4)
	if e := d.Write(1, a); e != api.OK {
		t.Errorf("Write: %v", e)
	}
	read("Read", d.Read, 1, a)
	read("Lies", d.Lies, 1, full(0))
	if e := d.Sync(); e != api.OK {
		t.Errorf("Sync: %v", e)
	}
	read("Lies", d.Lies, 1, a)
	if e, f, g := d.Write(1, b), d.Write(2, c), d.Crash(false, true); e != api.OK || f != api.OK || g != api.OK {
		t.Errorf("Write, Write, Crash: %v %v %v", e, f, g)
	}
	read("Read", d.Read, 1, a)
	read("Read", d.Read, 2, c)
	l := []api.Errno{d.Arm(1), d.Write(0, a), d.Sync(), d.Write(4, a), d.Write(0, a[:3])}
	if !slices.Equal(l, []api.Errno{api.OK, api.OK, api.ErrDisk, api.ErrRange, api.ErrArg}) {
		t.Errorf("Arm(1) and what follows: %v", l)
	}
}
