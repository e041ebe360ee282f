package point_test

import (
	"bytes"
	"encoding/binary"
	"fmt"
	"hash/crc32"
	"math"
	"math/rand"
	"slices"
	"strings"
	"testing"

	"packsaddle/api"
	"packsaddle/disk"
	"packsaddle/log"
	"packsaddle/point"
)

// must gives up at what was refused.
func must(e api.Errno) {
	if e != api.OK {
		panic(e)
	}
}

// made is a new disk, on which nothing is a piece, and nothing is noughts.
func made(sectors int) *disk.Disk {
	d, e := disk.New(sectors)
	must(e)
	for at := range sectors {
		must(d.Write(at, bytes.Repeat([]byte{byte(at + 1)}, 64)))
	}
	must(d.Sync())
	return d
}

// formatted and opened are keeps that are there.
func formatted(d *disk.Disk, state []byte) *point.Keep {
	k, e := point.Format(d, state)
	if k == nil || e != api.OK {
		panic(e)
	}
	return k
}

func opened(d *disk.Disk) *point.Keep {
	k, e := point.Open(d)
	if k == nil || e != api.OK {
		panic(e)
	}
	return k
}

// data are bytes none of which is 0; of another number they are others.
func data(n, number int) []byte {
	b := make([]byte, n)
	for i := range b {
		b[i] = byte(1 + (i*7+number*31+i/50+i/4000*3)%255)
	}
	return b
}

// lot is a list of bytes out of texts.
func lot(l ...string) [][]byte {
	var all [][]byte
	for _, s := range l {
		all = append(all, []byte(s))
	}
	return all
}

// sealed is 60 bytes and their sum, by another road.
func sealed(b []byte) []byte {
	return binary.BigEndian.AppendUint32(slices.Clone(b), crc32.Checksum(b, crc32.MakeTable(crc32.Castagnoli)))
}

// piece is a sector, whatever it is told.
func piece(epoch, number uint32, marks, many byte, data []byte) []byte {
	b := binary.BigEndian.AppendUint32(nil, epoch)
	b = binary.BigEndian.AppendUint32(b, number)
	b = append(append(b, marks, many), data...)
	return sealed(append(b, make([]byte, 60-len(b))...))
}

// laid are the pieces of records, one behind the other.
func laid(epoch uint32, number int, records ...[]byte) [][]byte {
	var all [][]byte
	for _, record := range records {
		for first := true; first || len(record) > 0; first = false {
			n, marks := min(50, len(record)), byte(0)
			if first {
				marks++
			}
			if n == len(record) {
				marks += 2
			}
			all = append(all, piece(epoch, uint32(number+len(all)), marks, byte(n), record[:n]))
			record = record[n:]
		}
	}
	return all
}

// head is a first record.
func head(bytes, parts uint32) []byte {
	return binary.BigEndian.AppendUint32(binary.BigEndian.AppendUint32(nil, bytes), parts)
}

// stated are the records of a state.
func stated(state []byte) [][]byte {
	all := [][]byte{nil}
	for part := range slices.Chunk(state, 4000) {
		all = append(all, part)
	}
	all[0] = head(uint32(len(state)), uint32(len(all)-1))
	return all
}

// put lays sectors on a disk.
func put(d *disk.Disk, from int, sectors ...[]byte) {
	for i, b := range sectors {
		must(d.Write(from+i, b))
	}
	must(d.Sync())
}

// layIn and lay put the records of an epoch in an area, and in the one that is the epoch's.
func layIn(d *disk.Disk, area int, epoch uint32, records ...[]byte) {
	put(d, area*(d.Len()/2), laid(epoch, 0, records...)...)
}

func lay(d *disk.Disk, epoch uint32, records ...[]byte) { layIn(d, int(epoch%2), epoch, records...) }

// model is a keep by another road: it writes what the chapters say on a disk of its own.
type model struct {
	d       *disk.Disk
	epoch   uint32
	state   []byte
	changes [][]byte
	used    int
	broken  bool
}

// isPiece looks at each thing that makes a sector a piece.
func isPiece(b []byte) bool {
	return bytes.Equal(sealed(b[:60]), b) && b[8] <= 3 && b[9] <= 50 && len(bytes.Trim(b[10+b[9]:60], "\x00")) == 0
}

// readLog is what an epoch's log has, on its area, and how many sectors that takes.
func readLog(d *disk.Disk, epoch uint32) (records [][]byte, used int) {
	half := d.Len() / 2
	underWay, record := false, []byte{}
	for number := range half {
		b, e := d.Read(int(epoch%2)*half + number)
		must(e)
		if !isPiece(b) || binary.BigEndian.Uint32(b) != epoch || binary.BigEndian.Uint32(b[4:]) != uint32(number) || (b[8]%2 == 1) == underWay {
			break
		}
		record, underWay = append(record, b[10:10+b[9]]...), true
		if b[8] >= 2 {
			records, used = append(records, record), number+1
			record, underWay = []byte{}, false
		}
	}
	return records, used
}

// showing are the epochs that both areas show; below 0 where they show none.
func showing(d *disk.Disk) [2]int64 {
	var all [2]int64
	for area := range all {
		b, e := d.Read(area * (d.Len() / 2))
		must(e)
		all[area] = -1
		if isPiece(b) && binary.BigEndian.Uint32(b[4:]) == 0 {
			all[area] = int64(binary.BigEndian.Uint32(b))
		}
	}
	return all
}

// modelled is the keep of a disk; nil, if it has none.
func modelled(d *disk.Disk) *model {
	var best *model
	for area, epoch := range showing(d) {
		if epoch < 0 || int(epoch%2) != area || best != nil && int64(best.epoch) > epoch {
			continue
		}
		records, used := readLog(d, uint32(epoch))
		if len(records) == 0 || len(records[0]) != 8 {
			continue
		}
		many, parts := binary.BigEndian.Uint32(records[0]), binary.BigEndian.Uint32(records[0][4:])
		if int64(parts) > int64(len(records)-1) {
			continue
		}
		state := bytes.Join(records[1:1+parts], nil)
		if int64(len(state)) == int64(many) {
			best = &model{d: d, epoch: uint32(epoch), state: state, changes: records[1+parts:], used: used}
		}
	}
	return best
}

// nextEpoch is the next one of a disk, as if there were no last one: it counts on until one may be.
func nextEpoch(d *disk.Disk) int64 {
	both, best := showing(d), modelled(d)
	for epoch := max(both[0], both[1]) + 1; ; epoch++ {
		if best == nil || epoch%2 != int64(best.epoch%2) {
			return epoch
		}
	}
}

// written appends records to the log of an epoch.
func written(d *disk.Disk, epoch uint32, used int, records ...[]byte) (int, api.Errno) {
	from := int(epoch%2) * (d.Len() / 2)
	for i, record := range records {
		pieces := laid(epoch, used, record)
		last := len(pieces) - 1
		for j, p := range pieces[:last] {
			if d.Write(from+used+j, p) != api.OK {
				return used, api.ErrDisk
			}
		}
		if last > 0 && d.Sync() != api.OK {
			return used, api.ErrDisk
		}
		if d.Write(from+used+last, pieces[last]) != api.OK || d.Sync() != api.OK {
			if i < len(records)-1 {
				return used, api.ErrDisk
			}
			return used, api.ErrUnsure
		}
		used += len(pieces)
	}
	return used, api.OK
}

func (m *model) commit(b []byte) api.Errno {
	switch {
	case m.broken:
		return api.ErrBroken
	case len(b) > 4000:
		return api.ErrLong
	case m.used+len(laid(0, 0, b)) > m.d.Len()/2:
		return api.ErrLogFull
	}
	used, e := written(m.d, m.epoch, m.used, b)
	m.broken = e == api.ErrUnsure
	if e == api.OK {
		m.used, m.changes = used, append(m.changes, bytes.Clone(b))
	}
	return e
}

// checkpointed is the keep behind a checkpoint of a disk.
func checkpointed(d *disk.Disk, state []byte) (*model, api.Errno) {
	epoch, records := nextEpoch(d), stated(state)
	switch {
	case len(state) > 1<<20:
		return nil, api.ErrLong
	case epoch > math.MaxUint32:
		return nil, api.ErrEpochs
	case len(laid(0, 0, records...)) > d.Len()/2:
		return nil, api.ErrLogFull
	}
	used, e := written(d, uint32(epoch), 0, records...)
	if e != api.OK {
		return nil, e
	}
	return &model{d: d, epoch: uint32(epoch), state: bytes.Clone(state), used: used}, api.OK
}

func (m *model) checkpoint(state []byte) api.Errno {
	if m.broken {
		return api.ErrBroken
	}
	n, e := checkpointed(m.d, state)
	if e == api.OK {
		*m = *n
	}
	m.broken = e == api.ErrUnsure
	return e
}

func (m *model) copied(d *disk.Disk) *model {
	c := *m
	c.d, c.changes = d, slices.Clone(m.changes)
	return &c
}

// told is bytes in few words, and records.
func told(records ...[]byte) string {
	var all []string
	for _, b := range records {
		all = append(all, fmt.Sprintf("%d bytes of % x", len(b), b[:min(4, len(b))]))
	}
	return "[" + strings.Join(all, ", ") + "]"
}

// listed is what Changes goes over.
func listed(k *point.Keep) [][]byte {
	var all [][]byte
	for b := range k.Changes() {
		all = append(all, b)
	}
	return all
}

// alike tells whether records are the same.
func alike(a, b [][]byte) bool { return slices.EqualFunc(a, b, bytes.Equal) }

// has tells a fault if a keep has another state, other changes.
func has(t *testing.T, what string, k *point.Keep, state []byte, changes [][]byte) {
	t.Helper()
	if s := k.State(); !bytes.Equal(s, state) {
		t.Fatalf("%s: State %s, want %s", what, told(s), told(state))
	}
	if all := listed(k); !alike(all, changes) {
		t.Fatalf("%s: Changes %s, want %s", what, told(all...), told(changes...))
	}
}

// as tells a fault if a keep isn't as its model.
func (m *model) as(t *testing.T, what string, k *point.Keep) {
	t.Helper()
	has(t, what, k, m.state, m.changes)
	if n, is := k.Epoch(); n != m.epoch || !is {
		t.Fatalf("%s: Epoch %d %v, want %d", what, n, is, m.epoch)
	}
	if n := k.Left(); n != m.d.Len()/2-m.used {
		t.Fatalf("%s: Left %d, want %d", what, n, m.d.Len()/2-m.used)
	}
	if k.Broken() != m.broken {
		t.Fatalf("%s: Broken %v, want %v", what, k.Broken(), m.broken)
	}
}

// isOf tells a fault if a disk hasn't just the keep that its model has.
func isOf(t *testing.T, what string, d *disk.Disk) {
	t.Helper()
	c := d.Copy()
	m := modelled(c)
	k, e := point.Open(d)
	switch {
	case m == nil && (k != nil || e != api.ErrNoKeep):
		t.Fatalf("%s: Open: %v %v, want none", what, k, e)
	case m != nil && (k == nil || e != api.OK):
		t.Fatalf("%s: Open: %v, want the epoch %d", what, e, m.epoch)
	case m != nil:
		m.as(t, what, k)
	}
	if !disk.Same(c, d) {
		t.Fatalf("%s: Open did something", what)
	}
}

// sameDisk tells a fault if two aren't.
func sameDisk(t *testing.T, what string, a, b *disk.Disk) {
	t.Helper()
	if !disk.Same(a, b) {
		t.Fatalf("%s: the disk is another one", what)
	}
}

// truths are all lists of n of them; of many some: all, none, and one of them alone, or all but one.
func truths(n int) [][]bool {
	all := [][]bool{{}}
	if n <= 7 {
		for range n {
			var more [][]bool
			for _, l := range all {
				more = append(more, append(slices.Clone(l), false), append(slices.Clone(l), true))
			}
			all = more
		}
		return all
	}
	most := slices.Repeat([]bool{true}, n)
	all = append(all, most)
	for i := 0; i < n; i += max(1, n/9) {
		lost, kept := slices.Clone(most), make([]bool, n)
		lost[i], kept[i] = false, true
		all = append(all, lost, kept)
	}
	return all
}

// waiting is how many writes wait.
func waiting(d *disk.Disk) int {
	n := 0
	for range d.Waits() {
		n++
	}
	return n
}

// steps is how many writes and syncs it takes to append records.
func steps(records ...[]byte) int {
	n := 0
	for _, b := range records {
		pieces := len(laid(0, 0, b))
		n += pieces + 1
		if pieces > 1 {
			n++
		}
	}
	return n
}

// noDisks are disks that are none.
func noDisks() map[string]*disk.Disk {
	refused, _ := disk.New(0)
	return map[string]*disk.Disk{"nil": nil, "zero": {}, "refused": refused}
}

// noKeeps are keeps that are none.
func noKeeps() map[string]*point.Keep {
	refused, _ := point.Format(nil, nil)
	bare, _ := point.Open(made(40))
	return map[string]*point.Keep{"nil": nil, "zero": {}, "refused": refused, "bare": bare}
}

// states are such at which something begins, on a disk of 400.
func states() [][]byte {
	var all [][]byte
	for i, n := range []int{0, 1, 2, 49, 50, 51, 100, 101, 3950, 3951, 3999, 4000, 4001, 4050, 4051, 7999, 8000, 8001} {
		all = append(all, data(n, i))
	}
	return all
}

// P13.1

func TestFormat(t *testing.T) {
	for _, n := range []int{4, 5, 6, 7, 40, 41, 400, 4096} {
		for _, state := range states() {
			if 1+(len(state)+49)/50 > n/2 {
				continue
			}
			what := fmt.Sprintf("a disk of %d, %d bytes", n, len(state))
			d := made(n)
			c := d.Copy()
			k, e := point.Format(d, state)
			m, f := checkpointed(c, state)
			if k == nil || e != api.OK || f != api.OK {
				t.Fatalf("%s: Format: %v %v", what, k, e)
			}
			m.as(t, what, k)
			sameDisk(t, what, c, d)
			isOf(t, what, d)
			if epoch, is := k.Epoch(); epoch != 0 || !is {
				t.Errorf("%s: Epoch %d %v", what, epoch, is)
			}
			// The keep keeps the disk.
			if n/2 > m.used {
				must(k.Commit([]byte("c")))
				must(m.commit([]byte("c")))
				sameDisk(t, what+", committed", c, d)
			}
		}
	}
}

func TestFormatLays(t *testing.T) {
	// Each byte, but for the sums, by hand.
	d, _ := disk.New(9)
	formatted(d, []byte("hi"))
	wants := [][]byte{
		{0, 0, 0, 0, 0, 0, 0, 0, 3, 8, 0, 0, 0, 2, 0, 0, 0, 1},
		{0, 0, 0, 0, 0, 0, 0, 1, 3, 2, 'h', 'i'},
		{}, {}, {}, {}, {}, {}, {},
	}
	for at, want := range wants {
		b, _ := d.Lies(at)
		full := append(want, make([]byte, 60-len(want))...)
		if !bytes.Equal(b[:60], full) || len(want) > 0 && !bytes.Equal(b, sealed(full)) {
			t.Errorf("sector %d: % x", at, b)
		}
	}
	// The area 1 lies behind half of the sectors, rounded down.
	formatted(d, nil)
	b, _ := d.Lies(4)
	want := append([]byte{0, 0, 0, 1, 0, 0, 0, 0, 3, 8}, make([]byte, 50)...)
	if !bytes.Equal(b, sealed(want)) {
		t.Errorf("sector 4: % x", b)
	}
}

func TestFormatRefuses(t *testing.T) {
	long := make([]byte, 1<<20+1)
	for what, d := range noDisks() {
		for _, state := range [][]byte{nil, []byte("s"), long} {
			if k, e := point.Format(d, state); k != nil || e != api.ErrNil {
				t.Errorf("%s: Format(%d bytes): %v %v", what, len(state), k, e)
			}
		}
	}
	// Of a disk that is small, and one that has no epoch left: all that applies besides comes behind.
	worn := func(n int) *disk.Disk {
		d := made(n)
		put(d, 0, piece(math.MaxUint32, 0, 3, 0, nil))
		return d
	}
	for what, x := range map[string]struct {
		d     *disk.Disk
		state []byte
		want  api.Errno
	}{
		"1 sector":            {made(1), []byte("s"), api.ErrArg},
		"2 sectors":           {made(2), nil, api.ErrArg},
		"3 sectors":           {made(3), nil, api.ErrArg},
		"3, long":             {made(3), long, api.ErrArg},
		"3, worn":             {worn(3), nil, api.ErrArg},
		"long":                {made(40), long, api.ErrLong},
		"long, by more":       {made(4096), make([]byte, 1<<21), api.ErrLong},
		"long, worn":          {worn(40), long, api.ErrLong},
		"worn":                {worn(40), nil, api.ErrEpochs},
		"worn, full":          {worn(40), data(4000, 1), api.ErrEpochs},
		"as many as may be":   {made(4096), long[:1<<20], api.ErrLogFull},
		"4, 51 bytes":         {made(4), data(51, 1), api.ErrLogFull},
		"5, 51 bytes":         {made(5), data(51, 1), api.ErrLogFull},
		"40, 951 bytes":       {made(40), data(951, 1), api.ErrLogFull},
		"41, 951 bytes":       {made(41), data(951, 1), api.ErrLogFull},
		"162, 4001 bytes":     {made(162), data(4001, 1), api.ErrLogFull},
		"4096, 102351 bytes":  {made(4096), data(102351, 1), api.ErrLogFull},
		"4, as many as there": {made(4), data(1<<20, 1), api.ErrLogFull},
	} {
		for left := -1; left <= 1; left++ {
			// That the disk fails comes behind all of these.
			must(x.d.Arm(left))
			c := x.d.Copy()
			k, e := point.Format(x.d, x.state)
			if k != nil || e != x.want {
				t.Errorf("%s, %d left: Format: %v %v, want %v", what, left, k, e, x.want)
			}
			sameDisk(t, what, c, x.d)
		}
	}
}

func TestTheGreatestStateThatFits(t *testing.T) {
	for n, size := range map[int]int{4: 50, 5: 50, 6: 100, 40: 950, 41: 950, 162: 4000, 164: 4050, 4096: 102350, 4095: 102300} {
		d := made(n)
		state := data(size, n)
		k, e := point.Format(d, state)
		if k == nil || e != api.OK {
			t.Fatalf("a disk of %d: Format: %v", n, e)
		}
		has(t, "formatted", k, state, nil)
		has(t, "opened anew", opened(d), state, nil)
		if k.Left() != 0 {
			t.Errorf("a disk of %d: Left %d", n, k.Left())
		}
		if e := k.Commit(nil); e != api.ErrLogFull {
			t.Errorf("a disk of %d: Commit: %v", n, e)
		}
		if e := k.Checkpoint(data(size+1, 1)); e != api.ErrLogFull {
			t.Errorf("a disk of %d: Checkpoint: %v", n, e)
		}
		if e := k.Checkpoint(data(size, 1)); e != api.OK {
			t.Errorf("a disk of %d: Checkpoint: %v", n, e)
		}
		has(t, "behind a checkpoint", opened(d), data(size, 1), nil)
	}
}

// shape is what lies on a disk of 20.
type shape struct {
	lie func(d *disk.Disk)
	// The keep of the disk, if its epoch isn't below 0.
	epoch   int64
	state   string
	changes [][]byte
	// The next epoch.
	next int64
}

func shapes() map[string]shape {
	laying := func(area int, epoch uint32, records ...[]byte) func(*disk.Disk) {
		return func(d *disk.Disk) { layIn(d, area, epoch, records...) }
	}
	both := func(l ...func(*disk.Disk)) func(*disk.Disk) {
		return func(d *disk.Disk) {
			for _, f := range l {
				f(d)
			}
		}
	}
	sector := func(at int, b []byte) func(*disk.Disk) { return func(d *disk.Disk) { put(d, at, b) } }
	hi, top := []byte("hi"), uint32(math.MaxUint32)
	s, half := stated([]byte("s")), [][]byte{head(1, 1)}
	return map[string]shape{
		"nothing":                     {both(), -1, "", nil, 0},
		"noughts":                     {both(sector(0, make([]byte, 64)), sector(10, make([]byte, 64))), -1, "", nil, 0},
		"no state":                    {laying(0, 0, head(0, 0)), 0, "", nil, 1},
		"a state":                     {laying(0, 0, head(2, 1), hi), 0, "hi", nil, 1},
		"in the other area":           {laying(1, 1, head(2, 1), hi), 1, "hi", nil, 2},
		"a later one":                 {laying(0, 8, head(2, 1), hi), 8, "hi", nil, 9},
		"with changes":                {laying(0, 0, head(2, 1), hi, []byte("a"), nil, data(60, 1)), 0, "hi", [][]byte{[]byte("a"), nil, data(60, 1)}, 1},
		"no state, changes":           {laying(1, 3, head(0, 0), []byte("a"), head(2, 1)), 3, "", [][]byte{[]byte("a"), head(2, 1)}, 4},
		"in an area that isn't its":   {laying(1, 0, head(2, 1), hi), -1, "", nil, 1},
		"so, of 1":                    {laying(0, 1, head(2, 1), hi), -1, "", nil, 2},
		"no part":                     {laying(0, 0, head(2, 1)), -1, "", nil, 1},
		"a part that is short":        {laying(0, 0, head(2, 1), []byte("h")), -1, "", nil, 1},
		"a part that is long":         {laying(0, 0, head(1, 1), hi), -1, "", nil, 1},
		"too few parts":               {laying(0, 0, head(2, 2), hi), -1, "", nil, 1},
		"two parts":                   {laying(0, 0, head(2, 2), []byte("h"), []byte("i"), []byte("a")), 0, "hi", lot("a"), 1},
		"a part of none":              {laying(0, 0, head(0, 1), nil, []byte("a")), 0, "", lot("a"), 1},
		"a part of none that lacks":   {laying(0, 0, head(0, 1)), -1, "", nil, 1},
		"bytes, but no parts":         {laying(0, 0, head(2, 0), hi), -1, "", nil, 1},
		"as many parts as a number":   {laying(0, 0, head(2, top), hi), -1, "", nil, 1},
		"so many parts of none":       {laying(0, 0, head(0, top)), -1, "", nil, 1},
		"half of so many":             {laying(0, 0, head(2, 1<<31), hi), -1, "", nil, 1},
		"as many bytes as a number":   {laying(0, 0, head(top, 1), hi), -1, "", nil, 1},
		"2^32 - 2 and 4 bytes more":   {laying(0, 0, head(top-1, 2), hi, hi), -1, "", nil, 1},
		"a first record of none":      {laying(0, 0, nil, hi), -1, "", nil, 1},
		"of 4 bytes":                  {laying(0, 0, head(0, 0)[:4], hi), -1, "", nil, 1},
		"of 7 bytes":                  {laying(0, 0, head(0, 0)[:7], hi), -1, "", nil, 1},
		"of 9 bytes":                  {laying(0, 0, append(head(0, 0), 0), hi), -1, "", nil, 1},
		"of 16 bytes":                 {laying(0, 0, append(head(0, 0), head(0, 0)...), hi), -1, "", nil, 1},
		"a first record in pieces":    {both(sector(0, piece(2, 0, 1, 3, head(2, 1)[:3])), sector(1, piece(2, 1, 2, 5, head(2, 1)[3:])), sector(2, piece(2, 2, 3, 2, hi))), 2, "hi", nil, 3},
		"a first record's piece":      {sector(0, piece(2, 0, 1, 3, head(2, 1)[:3])), -1, "", nil, 3},
		"no record's first piece":     {sector(0, piece(2, 0, 2, 8, head(0, 0))), -1, "", nil, 3},
		"no record's piece":           {sector(0, piece(2, 0, 0, 8, head(0, 0))), -1, "", nil, 3},
		"marks that there are not":    {sector(0, piece(2, 0, 7, 8, head(0, 0))), -1, "", nil, 0},
		"a mark that there is not":    {sector(0, piece(2, 0, 4, 8, head(0, 0))), -1, "", nil, 0},
		"a piece of the number 1":     {sector(0, piece(2, 1, 3, 8, head(0, 0))), -1, "", nil, 0},
		"of a number that is greater": {sector(0, piece(2, 1<<24, 3, 8, head(0, 0))), -1, "", nil, 0},
		"behind an area's first":      {sector(1, piece(2, 0, 3, 8, head(0, 0))), -1, "", nil, 0},
		"more bytes behind it":        {sector(0, piece(2, 0, 3, 8, append(head(0, 0), 1))), -1, "", nil, 0},
		"51 bytes":                    {sector(0, piece(2, 0, 3, 51, nil)), -1, "", nil, 0},
		"50 bytes":                    {sector(0, piece(2, 0, 3, 50, nil)), -1, "", nil, 3},
		"255 bytes":                   {sector(0, piece(2, 0, 3, 255, nil)), -1, "", nil, 0},
		"two, the greater one ahead":  {both(laying(0, 4, head(2, 1), hi), laying(1, 3, s...)), 4, "hi", nil, 5},
		"two, the greater one behind": {both(laying(0, 4, head(2, 1), hi), laying(1, 5, s...)), 5, "s", nil, 6},
		"two, by far":                 {both(laying(0, 4, head(2, 1), hi), laying(1, 99, s...)), 99, "s", nil, 100},
		"the greater one isn't whole": {both(laying(0, 4, half...), laying(1, 3, s...)), 3, "s", nil, 6},
		"so, in the other area":       {both(laying(0, 4, s...), laying(1, 5, half...)), 4, "s", nil, 7},
		"so, by far":                  {both(laying(0, 4, s...), laying(1, 99, half...)), 4, "s", nil, 101},
		"the lesser one isn't whole":  {both(laying(0, 4, s...), laying(1, 3, half...)), 4, "s", nil, 5},
		"neither is whole":            {both(laying(0, 4, half...), laying(1, 3, half...)), -1, "", nil, 5},
		"neither, the other one more": {both(laying(0, 4, half...), laying(1, 5, half...)), -1, "", nil, 6},
		"neither is in its area":      {both(laying(0, 7, s...), laying(1, 2, s...)), -1, "", nil, 8},
		"one is in its, the lesser":   {both(laying(0, 7, s...), laying(1, 1, s...)), 1, "s", nil, 8},
		"so, of the other area":       {both(laying(0, 2, s...), laying(1, 6, s...)), 2, "s", nil, 7},
		"the same epoch in both":      {both(laying(0, 6, s...), laying(1, 6, half...)), 6, "s", nil, 7},
		"the last but one":            {laying(0, top-1, s...), int64(top - 1), "s", nil, int64(top)},
		"the last but two":            {laying(1, top-2, s...), int64(top - 2), "s", nil, int64(top - 1)},
		"the last one":                {laying(1, top, s...), int64(top), "s", nil, -1},
		"the last one isn't whole":    {laying(1, top, half...), -1, "", nil, -1},
		"the last one, not its area":  {laying(0, top, s...), -1, "", nil, -1},
		"the last but one isn't":      {laying(0, top-1, half...), -1, "", nil, int64(top)},
		"none is left for the area":   {both(laying(0, top-1, half...), laying(1, 3, s...)), 3, "s", nil, -1},
		"one is left for the area":    {both(laying(0, 2, s...), laying(1, top-1, s...)), 2, "s", nil, int64(top)},
		"both are the last ones":      {both(laying(0, top-1, s...), laying(1, top, s...)), int64(top), "s", nil, -1},
		"the last one fails":          {both(laying(0, top-1, s...), laying(1, top, half...)), int64(top - 1), "s", nil, -1},
	}
}

func TestOpenOfShapes(t *testing.T) {
	for what, x := range shapes() {
		for _, sectors := range []int{20, 21} {
			d := made(sectors)
			x.lie(d)
			isOf(t, what, d)
			k, e := point.Open(d)
			if x.epoch < 0 {
				if k != nil || e != api.ErrNoKeep {
					t.Errorf("%s: Open: %v %v", what, k, e)
				}
				continue
			}
			if k == nil || e != api.OK {
				t.Errorf("%s: Open: %v", what, e)
				continue
			}
			has(t, what, k, []byte(x.state), x.changes)
			if n, is := k.Epoch(); int64(n) != x.epoch || !is {
				t.Errorf("%s: Epoch %d %v", what, n, is)
			}
		}
	}
}

func TestNextEpochOfShapes(t *testing.T) {
	for what, x := range shapes() {
		d := made(20)
		x.lie(d)
		c, first := d.Copy(), d.Copy()
		k, e := point.Format(d, []byte("new"))
		m, f := checkpointed(c, []byte("new"))
		sameDisk(t, what, c, d)
		if x.next < 0 {
			if k != nil || e != api.ErrEpochs || f != api.ErrEpochs {
				t.Errorf("%s: Format: %v %v, %v", what, k, e, f)
			}
			sameDisk(t, what, first, d)
		} else {
			if k == nil || e != api.OK || f != api.OK {
				t.Fatalf("%s: Format: %v, %v", what, e, f)
			}
			m.as(t, what, k)
			if n, _ := k.Epoch(); int64(n) != x.next {
				t.Errorf("%s: Epoch %d, want %d", what, n, x.next)
			}
			isOf(t, what, d)
			has(t, what, opened(d), []byte("new"), nil)
		}
		// Checkpoint goes the same way.
		if k, e := point.Open(first); e == api.OK {
			want := api.OK
			if x.next < 0 {
				want = api.ErrEpochs
			}
			if e := k.Checkpoint([]byte("new")); e != want {
				t.Errorf("%s: Checkpoint: %v, want %v", what, e, want)
			}
			if n, _ := k.Epoch(); want == api.OK && int64(n) != x.next || want != api.OK && int64(n) != x.epoch {
				t.Errorf("%s: Epoch behind a checkpoint: %d", what, n)
			}
			sameDisk(t, what, first, d)
		}
	}
}

func TestEachBitOfAFirstSectorCounts(t *testing.T) {
	for bit := range 512 {
		what := fmt.Sprintf("bit %d is another one", bit)
		for _, b := range [][]byte{piece(4, 0, 3, 8, head(1, 1)), piece(4, 0, 3, 8, head(9, 9))} {
			d := made(20)
			lay(d, 3, stated([]byte("old"))...)
			lay(d, 4, stated([]byte("s"))...)
			b = slices.Clone(b)
			b[bit/8] ^= 1 << (bit % 8)
			put(d, 0, b)
			has(t, what, opened(d), []byte("old"), nil)
			if n, _ := formatted(d.Copy(), nil).Epoch(); n != 4 {
				t.Fatalf("%s: the next epoch is %d", what, n)
			}
			// With a sum that fits it is what it says, if it may be.
			put(d, 0, sealed(b[:60]))
			isOf(t, what+", sealed", d)
			c := d.Copy()
			k, e := point.Format(d, nil)
			m, f := checkpointed(c, nil)
			if e != f {
				t.Fatalf("%s, sealed: Format: %v, want %v", what, e, f)
			}
			if e == api.OK {
				m.as(t, what+", sealed", k)
			}
			sameDisk(t, what+", sealed", c, d)
		}
	}
}

func TestOpenReadsAnything(t *testing.T) {
	chance := rand.New(rand.NewSource(1))
	there, none, changes := 0, 0, 0
	for i := range 3000 {
		d := made(20 + chance.Intn(2))
		for area := range 2 {
			epoch := uint32(chance.Intn(6)*2 + area)
			if chance.Intn(10) == 0 {
				epoch++
			}
			var records [][]byte
			parts, size := chance.Intn(4), 0
			for range parts {
				n := chance.Intn(70)
				records, size = append(records, data(n, chance.Intn(9))), size+n
			}
			switch chance.Intn(10) {
			case 0:
				parts++
			case 1:
				size++
			case 2:
				parts = max(0, parts-1)
			}
			records = slices.Concat([][]byte{head(uint32(size), uint32(parts))}, records)
			for range chance.Intn(3) {
				records = append(records, data(chance.Intn(20), chance.Intn(9)))
			}
			pieces := laid(epoch, 0, records...)
			if chance.Intn(4) == 0 {
				pieces[chance.Intn(len(pieces))][chance.Intn(64)] ^= 1
			}
			put(d, area*(d.Len()/2), pieces[:min(len(pieces), d.Len()/2)]...)
		}
		isOf(t, fmt.Sprintf("anything %d", i), d)
		if m := modelled(d); m != nil {
			there++
			changes = max(changes, len(m.changes))
		} else {
			none++
		}
	}
	if there < 500 || none < 100 || changes < 2 {
		t.Errorf("%d were there, %d not, at most %d changes", there, none, changes)
	}
}

func TestOpenReadsWhatWaits(t *testing.T) {
	d := made(20)
	for at, b := range laid(4, 0, stated([]byte("s"))...) {
		must(d.Write(at, b))
	}
	c := d.Copy()
	has(t, "it waits", opened(d), []byte("s"), nil)
	sameDisk(t, "opened", c, d)
	must(d.Crash())
	if k, e := point.Open(d); k != nil || e != api.ErrNoKeep {
		t.Errorf("behind a crash: Open: %v %v", k, e)
	}
}

func TestOpenRefuses(t *testing.T) {
	for what, d := range noDisks() {
		if k, e := point.Open(d); k != nil || e != api.ErrNil {
			t.Errorf("%s: Open: %v %v", what, k, e)
		}
	}
	for n := 1; n < 4; n++ {
		d := made(n)
		put(d, 0, piece(0, 0, 3, 8, head(0, 0)))
		if k, e := point.Open(d); k != nil || e != api.ErrArg {
			t.Errorf("%d sectors: Open: %v %v", n, k, e)
		}
	}
	for _, n := range []int{4, 5, 40, 4096} {
		fresh, _ := disk.New(n)
		for _, d := range []*disk.Disk{made(n), fresh} {
			if k, e := point.Open(d); k != nil || e != api.ErrNoKeep {
				t.Errorf("%d sectors: Open: %v %v", n, k, e)
			}
		}
	}
}

func TestOpenOnADiskThatFails(t *testing.T) {
	d := made(40)
	k := formatted(d, []byte("s"))
	must(k.Commit([]byte("a")))
	must(d.Arm(0))
	c := d.Copy()
	has(t, "it fails", opened(d), []byte("s"), lot("a"))
	sameDisk(t, "opened", c, d)
}

func TestFormatUponAnything(t *testing.T) {
	// Upon a keep it is as a checkpoint: as long as it isn't done, that keep stays.
	for _, n := range []int{8, 9, 40} {
		d := made(n)
		for i := range 6 {
			c := d.Copy()
			state := data(i*20, i)
			k := formatted(d, state)
			m, e := checkpointed(c, state)
			must(e)
			m.as(t, "formatted", k)
			sameDisk(t, "formatted", c, d)
			if epoch, _ := k.Epoch(); epoch != uint32(i) {
				t.Errorf("%d: Epoch %d", i, epoch)
			}
			must(k.Commit([]byte("a")))
			for left := 0; left < steps(stated(data(70, 9))...); left++ {
				f := d.Copy()
				must(f.Arm(left))
				if k, e := point.Format(f, data(70, 9)); k != nil || e != api.ErrDisk && e != api.ErrUnsure {
					t.Errorf("%d left: Format: %v %v", left, k, e)
				}
				must(f.Crash())
				has(t, "that keep", opened(f), state, lot("a"))
			}
		}
	}
	chance := rand.New(rand.NewSource(2))
	for i := range 300 {
		d := made(20)
		for at := range 20 {
			b := make([]byte, 64)
			chance.Read(b)
			if chance.Intn(2) == 0 {
				b = piece(uint32(chance.Intn(5)), uint32(at%10), byte(chance.Intn(4)), 3, data(3, at))
			}
			put(d, at, b)
		}
		c := d.Copy()
		k := formatted(d, data(90, i))
		m, e := checkpointed(c, data(90, i))
		must(e)
		m.as(t, "upon anything", k)
		sameDisk(t, "upon anything", c, d)
	}
}

func TestStateAndChanges(t *testing.T) {
	d := made(400)
	k := formatted(d, data(4001, 1))
	want := [][]byte{data(3, 2), nil, data(50, 3), data(51, 4), data(3, 2), data(4000, 5)}
	for i, b := range want {
		if e := k.Commit(b); e != api.OK {
			t.Fatalf("Commit %d: %v", i, e)
		}
		has(t, "committed", k, data(4001, 1), want[:i+1])
		has(t, "opened anew", opened(d), data(4001, 1), want[:i+1])
	}
	must(k.Checkpoint(data(7, 6)))
	has(t, "behind a checkpoint", k, data(7, 6), nil)
	must(k.Commit([]byte("c")))
	has(t, "committed behind it", k, data(7, 6), lot("c"))
	has(t, "opened anew", opened(d), data(7, 6), lot("c"))
}

func TestChangesMayBeLeft(t *testing.T) {
	k := formatted(made(40), []byte("s"))
	want := lot("a", "b", "c", "d")
	for _, b := range want {
		must(k.Commit(b))
	}
	all := k.Changes()
	for n := range 5 {
		var some [][]byte
		for b := range all {
			if len(some) == n {
				break
			}
			some = append(some, b)
		}
		if !alike(some, want[:n]) {
			t.Errorf("left behind %d: %s", n, told(some...))
		}
	}
	for range 2 {
		if some := slices.Collect(all); !alike(some, want) {
			t.Errorf("gone over again: %s", told(some...))
		}
	}
	// One within the other.
	n := 0
	for range all {
		for range all {
			n++
		}
	}
	if n != 16 {
		t.Errorf("one within the other: %d", n)
	}
	// Nothing is told once it was left.
	calls := 0
	all(func([]byte) bool { calls++; return false })
	if calls != 1 {
		t.Errorf("%d calls behind a false", calls-1)
	}
}

func TestChangesAreAsTheyWereAskedFor(t *testing.T) {
	d := made(40)
	k := formatted(d, []byte("s"))
	none := k.Changes()
	must(k.Commit([]byte("a")))
	one := k.Changes()
	for range one {
		// In the midst, too.
		must(k.Commit([]byte("b")))
	}
	two := k.Changes()
	must(k.Checkpoint([]byte("t")))
	must(k.Commit([]byte("c")))
	must(d.Arm(0))
	k.Commit([]byte("d"))
	for what, x := range map[string]struct {
		is   func(func([]byte) bool)
		want [][]byte
	}{"none": {none, nil}, "one": {one, lot("a")}, "two": {two, lot("a", "b")}, "behind": {k.Changes(), lot("c")}} {
		if some := slices.Collect(x.is); !alike(some, x.want) {
			t.Errorf("%s: %s", what, told(some...))
		}
	}
}

// P13.2

func TestCommitWrites(t *testing.T) {
	for _, n := range []int{0, 1, 49, 50, 51, 100, 101, 3950, 3951, 3999, 4000} {
		d := made(400)
		k := formatted(d, []byte("s"))
		must(k.Checkpoint(data(60, 1)))
		c := d.Copy()
		m := modelled(c)
		for i := range 2 {
			if e, f := k.Commit(data(n, i)), m.commit(data(n, i)); e != api.OK || f != api.OK {
				t.Fatalf("Commit(%d bytes): %v %v", n, e, f)
			}
			m.as(t, "committed", k)
			sameDisk(t, "committed", c, d)
			isOf(t, "committed", d)
		}
	}
}

func TestCommitRefuses(t *testing.T) {
	for what, k := range noKeeps() {
		for _, n := range []int{0, 1, 4001} {
			if e := k.Commit(make([]byte, n)); e != api.ErrNil {
				t.Errorf("%s: Commit(%d bytes): %v", what, n, e)
			}
		}
	}
	for _, sectors := range []int{4, 6, 40, 400} {
		for _, n := range []int{4001, 4002, 5000, 1 << 20} {
			d := made(sectors)
			k := formatted(d, nil)
			must(d.Arm(0))
			c := d.Copy()
			if e := k.Commit(make([]byte, n)); e != api.ErrLong {
				t.Errorf("a disk of %d: Commit(%d bytes): %v", sectors, n, e)
			}
			modelled(c).as(t, "refused", k)
			sameDisk(t, "refused", c, d)
		}
	}
	for left := range 4 {
		for _, n := range []int{0, 50, 51, 100, 101, 150, 151, 4000} {
			d := made(14)
			k := formatted(d, []byte("s"))
			for k.Left() > left {
				must(k.Commit([]byte("a")))
			}
			c := d.Copy()
			m := modelled(c)
			want := api.OK
			if max(1, (n+49)/50) > left {
				want = api.ErrLogFull
				// That the disk fails comes behind that.
				must(d.Arm(0))
				must(c.Arm(0))
			}
			if e, f := k.Commit(data(n, 1)), m.commit(data(n, 1)); e != want || f != want {
				t.Errorf("%d left: Commit(%d bytes): %v %v, want %v", left, n, e, f, want)
			}
			m.as(t, "full, or not", k)
			sameDisk(t, "full, or not", c, d)
		}
	}
}

func TestCommitFails(t *testing.T) {
	for _, n := range []int{0, 1, 50, 51, 100, 120, 201} {
		all := steps(data(n, 1))
		for left := -1; left <= all+1; left++ {
			d := made(40)
			k := formatted(d, []byte("s"))
			must(k.Commit([]byte("a")))
			c := d.Copy()
			m := modelled(c)
			must(d.Arm(left))
			must(c.Arm(left))
			want, changes := api.OK, [][]byte{[]byte("a"), data(n, 1)}
			if left >= 0 && left < all {
				want, changes = api.ErrUnsure, changes[:1]
				if left < all-2 {
					want = api.ErrDisk
				}
			}
			what := fmt.Sprintf("%d bytes, %d left", n, left)
			if e, f := k.Commit(data(n, 1)), m.commit(data(n, 1)); e != want || f != want {
				t.Errorf("%s: Commit: %v %v, want %v", what, e, f, want)
			}
			m.as(t, what, k)
			sameDisk(t, what, c, d)
			has(t, what, k, []byte("s"), changes)
			if k.Broken() != (want == api.ErrUnsure) {
				t.Errorf("%s: Broken %v", what, k.Broken())
			}
			broken(t, what, k, d)
		}
	}
}

// broken tells a fault if a keep that is broken does something, or if one that isn't doesn't.
func broken(t *testing.T, what string, k *point.Keep, d *disk.Disk) {
	t.Helper()
	is := k.Broken()
	// Whether the disk fails or not.
	must(d.Arm(-1))
	state, changes := k.State(), listed(k)
	if is {
		c := d.Copy()
		for _, n := range []int{0, 5, 4001, 1<<20 + 1} {
			if e := k.Commit(data(n, 1)); e != api.ErrBroken {
				t.Errorf("%s: Commit(%d bytes) of a broken one: %v", what, n, e)
			}
			if e := k.Checkpoint(data(n, 1)); e != api.ErrBroken {
				t.Errorf("%s: Checkpoint(%d bytes) of a broken one: %v", what, n, e)
			}
		}
		must(d.Crash())
		if e := k.Commit(nil); e != api.ErrBroken || !k.Broken() {
			t.Errorf("%s: Commit behind a crash: %v", what, e)
		}
		must(c.Crash())
		sameDisk(t, what, c, d)
		has(t, what+", broken", k, state, changes)
		return
	}
	if e := k.Commit([]byte("more")); e != api.OK {
		t.Errorf("%s: Commit goes on: %v", what, e)
	}
	changes = append(changes, []byte("more"))
	has(t, what+", gone on", k, state, changes)
	has(t, what+", gone on, opened anew", opened(d), state, changes)
	if e := k.Checkpoint([]byte("other")); e != api.OK {
		t.Errorf("%s: Checkpoint goes on: %v", what, e)
	}
	has(t, what+", gone on", k, []byte("other"), nil)
	has(t, what+", gone on, opened anew", opened(d), []byte("other"), nil)
}

func TestCheckpointWrites(t *testing.T) {
	for _, state := range states() {
		d := made(400)
		k := formatted(d, []byte("s"))
		c := d.Copy()
		m := modelled(c)
		for i := range 4 {
			what := fmt.Sprintf("%d bytes, for the %d. time", len(state), i)
			if e, f := k.Checkpoint(state), m.checkpoint(state); e != api.OK || f != api.OK {
				t.Fatalf("%s: Checkpoint: %v %v", what, e, f)
			}
			m.as(t, what, k)
			sameDisk(t, what, c, d)
			isOf(t, what, d)
			if n, _ := k.Epoch(); int(n) != i+1 {
				t.Errorf("%s: Epoch %d", what, n)
			}
			must(k.Commit(data(9, i)))
			must(m.commit(data(9, i)))
			m.as(t, what+", committed", k)
			sameDisk(t, what+", committed", c, d)
		}
	}
}

func TestCheckpointRefuses(t *testing.T) {
	for what, k := range noKeeps() {
		for _, n := range []int{0, 1, 1<<20 + 1} {
			if e := k.Checkpoint(make([]byte, n)); e != api.ErrNil {
				t.Errorf("%s: Checkpoint(%d bytes): %v", what, n, e)
			}
		}
	}
	for what, x := range map[string]struct {
		epoch uint32
		size  int
		want  api.Errno
	}{
		"long":                 {4, 1<<20 + 1, api.ErrLong},
		"long, by more":        {4, 1 << 21, api.ErrLong},
		"as long as may be":    {4, 1 << 20, api.ErrLogFull},
		"full":                 {4, 951, api.ErrLogFull},
		"worn":                 {math.MaxUint32, 0, api.ErrEpochs},
		"worn, long":           {math.MaxUint32, 1<<20 + 1, api.ErrLong},
		"worn, full":           {math.MaxUint32, 951, api.ErrEpochs},
		"the last epoch, full": {math.MaxUint32 - 1, 951, api.ErrLogFull},
	} {
		for left := -1; left <= 1; left++ {
			d := made(40)
			lay(d, x.epoch, append(stated([]byte("s")), []byte("a"))...)
			must(d.Arm(left))
			k, c := opened(d), d.Copy()
			m := modelled(c)
			if e, f := k.Checkpoint(make([]byte, x.size)), m.checkpoint(make([]byte, x.size)); e != x.want || f != x.want {
				t.Errorf("%s, %d left: Checkpoint: %v %v, want %v", what, left, e, f, x.want)
			}
			m.as(t, what, k)
			has(t, what, k, []byte("s"), lot("a"))
			sameDisk(t, what, c, d)
		}
	}
}

func TestWhatIsRefusedUsesNoEpochUp(t *testing.T) {
	k := formatted(made(40), []byte("s"))
	for range 3 {
		if e := k.Checkpoint(data(951, 1)); e != api.ErrLogFull {
			t.Errorf("Checkpoint: %v", e)
		}
	}
	must(k.Checkpoint([]byte("t")))
	if n, _ := k.Epoch(); n != 1 {
		t.Errorf("Epoch %d", n)
	}
}

func TestTheLastEpoch(t *testing.T) {
	d := made(40)
	lay(d, math.MaxUint32-2, stated(nil)...)
	k := opened(d)
	for i := range uint32(2) {
		if e := k.Checkpoint([]byte{byte(i)}); e != api.OK {
			t.Fatalf("Checkpoint: %v", e)
		}
		if n, _ := k.Epoch(); n != math.MaxUint32-1+i {
			t.Errorf("Epoch %d", n)
		}
	}
	if e := k.Checkpoint(nil); e != api.ErrEpochs {
		t.Errorf("Checkpoint behind the last epoch: %v", e)
	}
	// It goes on all the same.
	must(k.Commit([]byte("a")))
	has(t, "the last epoch", k, []byte{1}, lot("a"))
	has(t, "the last epoch, opened anew", opened(d), []byte{1}, lot("a"))
}

func TestCheckpointFails(t *testing.T) {
	for _, n := range []int{0, 1, 50, 51, 120, 4000, 4001, 4060} {
		records := stated(data(n, 1))
		all := steps(records...)
		for left := -1; left <= all+1; left++ {
			if n >= 4000 && left > 6 && left < all-12 && left%9 > 0 {
				continue
			}
			d := made(200)
			k := formatted(d, []byte("s"))
			must(k.Commit([]byte("a")))
			c := d.Copy()
			m := modelled(c)
			must(d.Arm(left))
			must(c.Arm(left))
			want, state, changes := api.OK, data(n, 1), [][]byte(nil)
			if left >= 0 && left < all {
				want, state, changes = api.ErrUnsure, []byte("s"), lot("a")
				// Just the last two steps make it whole.
				if left < all-2 {
					want = api.ErrDisk
				}
			}
			what := fmt.Sprintf("%d bytes, %d left", n, left)
			if e, f := k.Checkpoint(data(n, 1)), m.checkpoint(data(n, 1)); e != want || f != want {
				t.Errorf("%s: Checkpoint: %v %v, want %v", what, e, f, want)
			}
			m.as(t, what, k)
			sameDisk(t, what, c, d)
			has(t, what, k, state, changes)
			if k.Broken() != (want == api.ErrUnsure) {
				t.Errorf("%s: Broken %v", what, k.Broken())
			}
			broken(t, what, k, d)
		}
	}
}

func TestFormatFails(t *testing.T) {
	for _, n := range []int{0, 1, 51, 4001} {
		all := steps(stated(data(n, 1))...)
		for left := 0; left <= all; left++ {
			d := made(200)
			must(d.Arm(left))
			c := d.Copy()
			want := api.OK
			switch {
			case left < all-2:
				want = api.ErrDisk
			case left < all:
				want = api.ErrUnsure
			}
			k, e := point.Format(d, data(n, 1))
			_, f := checkpointed(c, data(n, 1))
			if e != want || f != want || (k == nil) != (want != api.OK) {
				t.Errorf("%d bytes, %d left: Format: %v %v %v, want %v", n, left, k, e, f, want)
			}
			sameDisk(t, "formatted", c, d)
		}
	}
}

func TestAFailedCheckpointUsesAnEpochUp(t *testing.T) {
	d := made(40)
	k := formatted(d, []byte("s"))
	must(d.Arm(2))
	if e := k.Checkpoint(data(60, 1)); e != api.ErrDisk {
		t.Fatalf("Checkpoint: %v", e)
	}
	must(d.Crash())
	must(k.Commit([]byte("a")))
	// The epoch 1 is shown; the area 1 has 3 as its next one.
	must(k.Checkpoint([]byte("u")))
	if n, _ := k.Epoch(); n != 3 {
		t.Errorf("Epoch %d", n)
	}
	has(t, "opened anew", opened(d), []byte("u"), nil)
	// What waits is shown, too.
	must(d.Arm(1))
	if e := k.Checkpoint([]byte("t")); e != api.ErrDisk {
		t.Fatalf("Checkpoint: %v", e)
	}
	must(d.Arm(-1))
	must(k.Checkpoint([]byte("v")))
	if n, _ := k.Epoch(); n != 6 {
		t.Errorf("Epoch %d", n)
	}
	// What waited and was lost isn't.
	must(d.Arm(1))
	k.Checkpoint([]byte("t"))
	must(d.Crash())
	must(k.Checkpoint([]byte("w")))
	if n, _ := k.Epoch(); n != 7 {
		t.Errorf("Epoch %d", n)
	}
}

func TestCheckpointBesideAnotherKeep(t *testing.T) {
	// The next epoch is the disk's, not the keep's that is asked: what another one did stays until all is there.
	d := made(40)
	a := formatted(d, []byte("s"))
	b := opened(d)
	must(b.Checkpoint([]byte("t")))
	must(b.Commit([]byte("c")))
	for left := range 5 {
		e := d.Copy()
		c := a.Copy(e)
		must(e.Arm(left))
		want := api.OK
		switch {
		case left < 2:
			want = api.ErrDisk
		case left < 4:
			want = api.ErrUnsure
		}
		if f := c.Checkpoint([]byte("u")); f != want {
			t.Fatalf("%d left: Checkpoint: %v", left, f)
		}
		must(e.Crash())
		if want == api.OK {
			has(t, "behind", opened(e), []byte("u"), nil)
			if n, _ := c.Epoch(); n != 2 {
				t.Errorf("Epoch %d", n)
			}
		} else {
			has(t, "ahead", opened(e), []byte("t"), lot("c"))
		}
	}
}

// P13.3

func TestNoKeep(t *testing.T) {
	for what, k := range noKeeps() {
		n, is := k.Epoch()
		if n != 0 || is || k.Left() != 0 || k.Broken() || len(k.State()) != 0 || k.Copy(made(40)) != nil || k.Copy(nil) != nil {
			t.Errorf("%s: %d %v %d %v %v", what, n, is, k.Left(), k.Broken(), k.State())
		}
		all := k.Changes()
		if all == nil {
			t.Fatalf("%s: Changes: nil", what)
		}
		for range all {
			t.Errorf("%s: Changes tells something", what)
		}
	}
}

func TestLeft(t *testing.T) {
	for _, n := range []int{4, 5, 6, 7, 40, 41, 4095, 4096} {
		d := made(n)
		k := formatted(d, nil)
		left := n/2 - 1
		if k.Left() != left {
			t.Errorf("a disk of %d: Left %d, want %d", n, k.Left(), left)
		}
		for _, size := range []int{0, 50, 51, 120} {
			need := max(1, (size+49)/50)
			e := k.Commit(data(size, 1))
			if e == api.OK {
				left -= need
			} else if need <= left {
				t.Errorf("a disk of %d: Commit(%d bytes): %v", n, size, e)
			}
			if k.Left() != left {
				t.Errorf("a disk of %d: Left %d, want %d", n, k.Left(), left)
			}
		}
		must(k.Checkpoint([]byte("s")))
		if k.Left() != n/2-2 || opened(d).Left() != n/2-2 {
			t.Errorf("a disk of %d: Left %d behind a checkpoint", n, k.Left())
		}
	}
}

func TestCopy(t *testing.T) {
	d := made(60)
	k := formatted(d, data(120, 1))
	must(k.Commit([]byte("a")))
	for what, none := range noDisks() {
		if c := k.Copy(none); c != nil {
			t.Errorf("%s: Copy: %v", what, c)
		}
	}
	m := modelled(d.Copy())
	e := d.Copy()
	c := k.Copy(e)
	m.as(t, "a copy", c)
	// They go on apart.
	must(c.Commit([]byte("b")))
	has(t, "the first one", k, data(120, 1), lot("a"))
	has(t, "the first disk", opened(d), data(120, 1), lot("a"))
	has(t, "the other disk", opened(e), data(120, 1), lot("a", "b"))
	must(k.Commit([]byte("c")))
	must(k.Commit([]byte("d")))
	has(t, "the copy", c, data(120, 1), lot("a", "b"))
	must(c.Checkpoint([]byte("t")))
	has(t, "the first one", k, data(120, 1), lot("a", "c", "d"))
	has(t, "the first disk", opened(d), data(120, 1), lot("a", "c", "d"))
	has(t, "the other disk", opened(e), []byte("t"), nil)
	// A broken one's copy is, and it alone.
	for what, stop := range map[string]func(*point.Keep) api.Errno{
		"Commit":     func(k *point.Keep) api.Errno { return k.Commit([]byte("x")) },
		"Checkpoint": func(k *point.Keep) api.Errno { return k.Checkpoint(nil) },
	} {
		f := d.Copy()
		x := k.Copy(f)
		must(f.Arm(1))
		if e := stop(x); e != api.ErrUnsure {
			t.Fatalf("%s: %v", what, e)
		}
		y := x.Copy(f.Copy())
		if !x.Broken() || !y.Broken() || k.Broken() || y.Commit(nil) != api.ErrBroken || y.Checkpoint(nil) != api.ErrBroken {
			t.Errorf("%s: Broken %v %v %v", what, x.Broken(), y.Broken(), k.Broken())
		}
		has(t, what, y, data(120, 1), lot("a", "c", "d"))
	}
}

func TestCopyOnAnotherDisk(t *testing.T) {
	// Nothing is promised of it, but that it ends.
	k := formatted(made(40), data(300, 1))
	must(k.Commit([]byte("a")))
	for _, n := range []int{1, 2, 3, 4, 5, 39, 4096} {
		c := k.Copy(made(n))
		c.Commit(data(60, 1))
		c.Checkpoint(data(60, 1))
		c.Checkpoint(data(1<<20+1, 1))
		c.State()
		listed(c)
		c.Left()
		c.Epoch()
		c.Broken()
		c.Copy(made(n))
	}
}

// P13.4

// scene is a keep, what is done of it, and what it has behind that.
type scene struct {
	from        *disk.Disk
	state       []byte
	changes     [][]byte
	do          func(*point.Keep) api.Errno
	nextState   []byte
	nextChanges [][]byte
	steps       int
}

func scenes() map[string]scene {
	all := map[string]scene{}
	for epochs := range 4 {
		for _, size := range []int{0, 60, 4030} {
			if size > 4000 && epochs != 2 {
				continue
			}
			d := made(240)
			k := formatted(d, []byte("first"))
			for i := range epochs {
				must(k.Commit(data(150, i)))
				must(k.Checkpoint(data(size, i)))
			}
			// What failed ahead lies there as well.
			if epochs%2 == 1 {
				must(d.Arm(9))
				k.Checkpoint(data(400, 7))
				must(d.Crash(true, true, false, true))
				must(d.Arm(4))
				k.Commit(data(400, 8))
				must(d.Crash(true, true, true, true))
			}
			must(k.Commit([]byte("a")))
			ahead, changes := k.State(), listed(k)
			for _, n := range []int{0, 1, 51, 120, 1000} {
				b := data(n, 3)
				all[fmt.Sprintf("%d epochs, %d bytes, Commit(%d)", epochs, size, n)] = scene{
					d, ahead, changes, func(k *point.Keep) api.Errno { return k.Commit(b) }, ahead, append(slices.Clone(changes), b), steps(b),
				}
			}
			for _, n := range []int{0, 1, 51, 120, 4001, 4100} {
				b := data(n, 3)
				all[fmt.Sprintf("%d epochs, %d bytes, Checkpoint(%d)", epochs, size, n)] = scene{
					d, ahead, changes, func(k *point.Keep) api.Errno { return k.Checkpoint(b) }, b, nil, steps(stated(b)...),
				}
			}
		}
	}
	return all
}

// is tells whether a keep has that state, these changes.
func is(k *point.Keep, state []byte, changes [][]byte) bool {
	return bytes.Equal(k.State(), state) && alike(listed(k), changes)
}

func TestCrash(t *testing.T) {
	unsure := [2]int{}
	for what, x := range scenes() {
		for left := -1; left <= x.steps; left++ {
			if x.steps > 30 && left > 5 && left < x.steps-5 && left%7 > 0 {
				continue
			}
			d := x.from.Copy()
			k := opened(d)
			has(t, what, k, x.state, x.changes)
			must(d.Arm(left))
			e := x.do(k)
			if (left < 0 || left == x.steps) != (e == api.OK) {
				t.Fatalf("%s, %d left: %v", what, left, e)
			}
			for _, keep := range truths(waiting(d)) {
				c := d.Copy()
				must(c.Crash(keep...))
				k := opened(c)
				was, will := is(k, x.state, x.changes), is(k, x.nextState, x.nextChanges)
				if e == api.OK && !will || e != api.OK && e != api.ErrUnsure && !was || !was && !will {
					t.Fatalf("%s, %d left: %v, crash %v: State %s, Changes %s", what, left, e, keep, told(k.State()), told(listed(k)...))
				}
				if e == api.ErrUnsure && will {
					unsure[1]++
				} else if e == api.ErrUnsure {
					unsure[0]++
				}
				// Opened again it is the same, and it goes on.
				state, changes := k.State(), listed(k)
				has(t, what+", opened again", opened(c), state, changes)
				must(k.Commit([]byte("on")))
				must(c.Crash())
				has(t, what+", gone on", opened(c), state, append(changes, []byte("on")))
				must(k.Checkpoint([]byte("and on")))
				must(c.Crash())
				has(t, what+", and on", opened(c), []byte("and on"), nil)
			}
		}
	}
	if unsure[0] == 0 || unsure[1] == 0 {
		t.Errorf("what was unsure was lost %d times, and kept %d times", unsure[0], unsure[1])
	}
}

func TestHistories(t *testing.T) {
	unsure := [2]int{}
	for seed := range int64(120) {
		chance := rand.New(rand.NewSource(seed))
		d := made(40 + chance.Intn(2))
		k := formatted(d, []byte("s"))
		state, changes := []byte("s"), [][]byte(nil)
		for i := range 80 {
			if chance.Intn(3) == 0 {
				must(d.Arm(chance.Intn(12)))
			}
			b := data(chance.Intn(200), i)
			nextState, nextChanges := state, append(slices.Clone(changes), b)
			var e api.Errno
			switch chance.Intn(5) {
			case 0:
				nextState, nextChanges = b, nil
				e = k.Checkpoint(b)
			case 1:
				nextState, nextChanges = b, nil
				var f *point.Keep
				if f, e = point.Format(d, b); e == api.OK {
					k = f
				}
			default:
				e = k.Commit(b)
			}
			switch e {
			case api.OK:
				state, changes = nextState, nextChanges
			case api.ErrDisk, api.ErrLogFull, api.ErrUnsure:
			default:
				t.Fatalf("seed %d, %d: %v", seed, i, e)
			}
			if e != api.ErrUnsure {
				has(t, fmt.Sprintf("seed %d, %d, %v", seed, i, e), k, state, changes)
				if chance.Intn(4) > 0 {
					// It goes on without a crash, perhaps on a disk that fails.
					if chance.Intn(2) == 0 {
						must(d.Arm(-1))
					}
					continue
				}
			}
			keep := make([]bool, waiting(d))
			for i := range keep {
				keep[i] = chance.Intn(2) == 0
			}
			must(d.Crash(keep...))
			k = opened(d)
			if e == api.ErrUnsure && !is(k, state, changes) {
				state, changes = nextState, nextChanges
				unsure[1]++
			} else if e == api.ErrUnsure {
				unsure[0]++
			}
			has(t, fmt.Sprintf("seed %d, %d, behind a crash", seed, i), k, state, changes)
		}
	}
	if unsure[0] == 0 || unsure[1] == 0 {
		t.Errorf("what was unsure was lost %d times, and kept %d times", unsure[0], unsure[1])
	}
}

func TestAnyCalls(t *testing.T) {
	type pair struct {
		k     *point.Keep
		m     *model
		d, md *disk.Disk
	}
	met := map[api.Errno]int{}
	for seed := range int64(120) {
		chance := rand.New(rand.NewSource(seed))
		d := made(24 + chance.Intn(2))
		if chance.Intn(4) == 0 {
			lay(d, uint32(math.MaxUint32-chance.Intn(20)), stated(nil)...)
		}
		md := d.Copy()
		k, e := point.Format(d, nil)
		m, f := checkpointed(md, nil)
		if e != f {
			t.Fatalf("seed %d: Format: %v, want %v", seed, e, f)
		}
		if e != api.OK {
			k, m = opened(d), modelled(md)
		}
		all := []pair{{k, m, d, md}}
		for step := range 80 {
			x := &all[chance.Intn(len(all))]
			what := fmt.Sprintf("seed %d, step %d", seed, step)
			b := data(chance.Intn(4)*chance.Intn(220), step)
			switch n := chance.Intn(20); {
			case n < 8:
				e, f = x.k.Commit(b), x.m.commit(b)
			case n < 12:
				e, f = x.k.Checkpoint(b), x.m.checkpoint(b)
			case n < 13:
				// Another keep of the same disk, beside the first one.
				y := *x
				y.k, e = point.Format(x.d, b)
				y.m, f = checkpointed(x.md, b)
				if e == f && e == api.OK {
					all = append(all, y)
				}
			case n < 16:
				left := chance.Intn(16) - 3
				must(x.d.Arm(left))
				must(x.md.Arm(left))
				continue
			case n < 17:
				y := pair{d: x.d.Copy(), md: x.md.Copy()}
				y.k, y.m = x.k.Copy(y.d), x.m.copied(y.md)
				all = append(all, y)
			default:
				keep := truths(5)[chance.Intn(32)]
				must(x.d.Crash(keep...))
				must(x.md.Crash(keep...))
				if y := modelled(x.md); y != nil && n < 19 {
					x.k, x.m = opened(x.d), y
				}
				isOf(t, what, x.d)
			}
			met[e]++
			if e != f {
				t.Fatalf("%s: %v, want %v", what, e, f)
			}
			for _, y := range all {
				y.m.as(t, what, y.k)
				sameDisk(t, what, y.md, y.d)
			}
		}
	}
	for _, e := range []api.Errno{api.OK, api.ErrBroken, api.ErrEpochs, api.ErrLogFull, api.ErrDisk, api.ErrUnsure} {
		if met[e] == 0 {
			t.Errorf("%v was never met", e)
		}
	}
}

// The rules that hold everywhere.

func TestBytesAreNotChangedAndNotKept(t *testing.T) {
	for _, n := range []int{0, 1, 50, 51, 4000, 4001, 4050} {
		room := append(data(n, 1), data(30, 2)...)
		own := slices.Clone(room)
		d := made(400)
		check := func(what string, k *point.Keep, state []byte, changes ...[]byte) {
			t.Helper()
			if !bytes.Equal(room, own) {
				t.Fatalf("%s of %d bytes changed them", what, n)
			}
			clear(room)
			has(t, what, k, state, changes)
			has(t, what+", opened anew", opened(d), state, changes)
			k.Commit(nil)
			if !bytes.Equal(room, make([]byte, n+30)) {
				t.Fatalf("%s of %d bytes: a later call changed what was handed in", what, n)
			}
			copy(room, own)
		}
		k := formatted(d, room[:n])
		check("Format", k, own[:n])
		must(k.Checkpoint(room[:n]))
		check("Checkpoint", k, own[:n])
		few := min(n, 4000)
		must(k.Commit(room[:few]))
		check("Commit", k, own[:n], nil, own[:few])
	}
}

func TestAnswersAreNewMemory(t *testing.T) {
	d := made(400)
	k := formatted(d, data(4100, 1))
	for i, n := range []int{3, 50, 120, 1} {
		must(k.Commit(data(n, i)))
	}
	m := modelled(d.Copy())
	spoil := func(b []byte) {
		b = b[:cap(b)]
		for i := range b {
			b[i] = 0xee
		}
		_ = append(b, 1, 2, 3)
	}
	for _, x := range []*point.Keep{k, opened(d), k.Copy(d.Copy())} {
		c := x.Copy(d.Copy())
		all := x.Changes()
		for range 2 {
			spoil(x.State())
			for b := range all {
				spoil(b)
			}
			m.as(t, "behind a change of an answer", x)
			m.as(t, "a copy, behind a change of an answer", c)
		}
		m.as(t, "the first one", k)
		m.as(t, "opened anew", opened(d))
	}
}

func TestWhatAsksDoesNothing(t *testing.T) {
	d := made(40)
	k := formatted(d, []byte("s"))
	must(k.Commit([]byte("a")))
	must(d.Write(39, make([]byte, 64)))
	must(d.Arm(0))
	c := d.Copy()
	k.State()
	listed(k)
	k.Epoch()
	k.Left()
	k.Broken()
	k.Copy(d.Copy())
	opened(d)
	sameDisk(t, "asked", c, d)
}

func TestOfLayer12(t *testing.T) {
	// A keep's records are layer 12's, over the whole area of the epoch.
	for epoch := range 3 {
		d := made(41)
		k := formatted(d, nil)
		for range epoch {
			must(k.Checkpoint(data(4*50+1, 1)))
		}
		must(k.Commit(data(51, 2)))
		l, e := log.Open(d, epoch%2*20, 20, uint32(epoch))
		must(e)
		want := append(stated(k.State()), data(51, 2))
		number := 0
		for i, b := range l.Records() {
			if i >= len(want) || !bytes.Equal(b, want[i]) {
				t.Errorf("the epoch %d: record %d: %s", epoch, i, told(b))
			}
			number++
		}
		if _, left := l.Len(); number != len(want) || left != k.Left() {
			t.Errorf("the epoch %d: %d records, %d left", epoch, number, left)
		}
		// What is appended to it is a change.
		must(l.Append([]byte("by hand")))
		has(t, "by hand", opened(d), k.State(), [][]byte{data(51, 2), []byte("by hand")})
	}
}

// The chapter's examples: a disk of 40.

func TestExamples(t *testing.T) {
	d, _ := disk.New(40)
	k, e := point.Format(d, []byte("s"))
	if e != api.OK {
		t.Fatalf("Format: %v", e)
	}
	if n, is := k.Epoch(); n != 0 || !is {
		t.Errorf("Epoch: %d %v", n, is)
	}
	for _, b := range []string{"a", "b"} {
		if e := k.Commit([]byte(b)); e != api.OK {
			t.Errorf("Commit(%s): %v", b, e)
		}
	}
	has(t, "State, Changes", k, []byte("s"), lot("a", "b"))
	o, e := point.Open(d)
	if e != api.OK {
		t.Fatalf("Open: %v", e)
	}
	has(t, "opened anew", o, []byte("s"), lot("a", "b"))
	if e := o.Checkpoint([]byte("t")); e != api.OK {
		t.Errorf("Checkpoint: %v", e)
	}
	if n, is := o.Epoch(); n != 1 || !is {
		t.Errorf("Epoch: %d %v", n, is)
	}
	has(t, "behind a checkpoint", o, []byte("t"), nil)
	x, _ := disk.New(40)
	if k, e := point.Open(x); k != nil || e != api.ErrNoKeep {
		t.Errorf("Open of a new disk: %v %v", k, e)
	}
}
