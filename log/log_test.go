package log_test

import (
	"bytes"
	"encoding/binary"
	"fmt"
	"hash/crc32"
	"math"
	"math/rand"
	"slices"
	"strings"
	"testing"

	"packsaddle/api"
	"packsaddle/disk"
	"packsaddle/log"
)

// must gives up at what was refused.
func must(e api.Errno) {
	if e != api.OK {
		panic(e)
	}
}

// made is a new disk, on which nothing is a piece, and nothing is noughts.
func made(sectors int) *disk.Disk {
	d, e := disk.New(sectors)
	must(e)
	for at := range sectors {
		must(d.Write(at, bytes.Repeat([]byte{byte(at + 1)}, 64)))
	}
	must(d.Sync())
	return d
}

// opened is a log that is there.
func opened(d *disk.Disk, from, many int, epoch uint32) *log.Log {
	l, e := log.Open(d, from, many, epoch)
	if l == nil || e != api.OK {
		panic(e)
	}
	return l
}

// data are bytes none of which is 0; of another number they are others.
func data(n, number int) []byte {
	b := make([]byte, n)
	for i := range b {
		b[i] = byte(1 + (i*7+number*31+i/50)%255)
	}
	return b
}

// sealed is 60 bytes and their sum, by another road.
func sealed(b []byte) []byte {
	return binary.BigEndian.AppendUint32(slices.Clone(b), crc32.Checksum(b, crc32.MakeTable(crc32.Castagnoli)))
}

// unsealed is a piece's first 60 bytes, whatever it is told.
func unsealed(epoch, number uint32, marks, many byte, data []byte) []byte {
	b := binary.BigEndian.AppendUint32(nil, epoch)
	b = binary.BigEndian.AppendUint32(b, number)
	b = append(append(b, marks, many), data...)
	return append(b, make([]byte, 60-len(b))...)
}

// piece is one of a number.
func piece(epoch uint32, number int, marks byte, data []byte) []byte {
	return sealed(unsealed(epoch, uint32(number), marks, byte(len(data)), data))
}

// laid are the pieces of records, one behind the other.
func laid(epoch uint32, number int, records ...[]byte) [][]byte {
	var all [][]byte
	for _, record := range records {
		for first := true; first || len(record) > 0; first = false {
			n, marks := min(50, len(record)), byte(0)
			if first {
				marks++
			}
			if n == len(record) {
				marks += 2
			}
			all = append(all, piece(epoch, number+len(all), marks, record[:n]))
			record = record[n:]
		}
	}
	return all
}

// put lays sectors on a disk.
func put(d *disk.Disk, from int, sectors ...[]byte) {
	for i, b := range sectors {
		must(d.Write(from+i, b))
	}
	must(d.Sync())
}

// model is a log by another road: it writes what the chapter says on a disk of its own.
type model struct {
	d          *disk.Disk
	from, many int
	epoch      uint32
	records    [][]byte
	used       int
	broken     bool
}

// modelled reads what lies on a disk, looking at each thing that makes a sector a piece.
func modelled(d *disk.Disk, from, many int, epoch uint32) *model {
	m := &model{d: d, from: from, many: many, epoch: epoch}
	underWay, record := false, []byte{}
	for number := range many {
		b, e := d.Read(from + number)
		must(e)
		n := int(b[9])
		switch {
		case !bytes.Equal(sealed(b[:60]), b), binary.BigEndian.Uint32(b) != epoch, binary.BigEndian.Uint32(b[4:]) != uint32(number):
			return m
		case b[8] > 3, n > 50, len(bytes.Trim(b[10+n:60], "\x00")) > 0, (b[8]%2 == 1) == underWay:
			return m
		}
		record, underWay = append(record, b[10:10+n]...), true
		if b[8] >= 2 {
			m.records, m.used = append(m.records, record), number+1
			record, underWay = []byte{}, false
		}
	}
	return m
}

func (m *model) append(b []byte) api.Errno {
	pieces := laid(m.epoch, m.used, b)
	switch {
	case m.broken:
		return api.ErrBroken
	case len(b) > 4000:
		return api.ErrLong
	case m.used+len(pieces) > m.many:
		return api.ErrLogFull
	}
	last := len(pieces) - 1
	for i, p := range pieces[:last] {
		if m.d.Write(m.from+m.used+i, p) != api.OK {
			return api.ErrDisk
		}
	}
	if last > 0 && m.d.Sync() != api.OK {
		return api.ErrDisk
	}
	if m.d.Write(m.from+m.used+last, pieces[last]) != api.OK || m.d.Sync() != api.OK {
		m.broken = true
		return api.ErrUnsure
	}
	m.records, m.used = append(m.records, bytes.Clone(b)), m.used+len(pieces)
	return api.OK
}

func (m *model) copied(d *disk.Disk) *model {
	c := *m
	c.d, c.records = d, slices.Clone(m.records)
	return &c
}

// listed is what Records goes over.
func listed(t *testing.T, l *log.Log) [][]byte {
	t.Helper()
	all := [][]byte{}
	for number, b := range l.Records() {
		if number != len(all) {
			t.Errorf("Records: number %d, want %d", number, len(all))
		}
		all = append(all, b)
	}
	return all
}

// told is records in few words.
func told(records [][]byte) string {
	var all []string
	for _, b := range records {
		all = append(all, fmt.Sprintf("%d bytes of % x", len(b), b[:min(4, len(b))]))
	}
	return "[" + strings.Join(all, ", ") + "]"
}

// alike tells whether records are the same.
func alike(a, b [][]byte) bool { return slices.EqualFunc(a, b, bytes.Equal) }

// as tells a fault if a log isn't as its model.
func (m *model) as(t *testing.T, what string, l *log.Log) {
	t.Helper()
	if all := listed(t, l); !alike(all, m.records) {
		t.Fatalf("%s: Records %s, want %s", what, told(all), told(m.records))
	}
	if n, left := l.Len(); n != len(m.records) || left != m.many-m.used {
		t.Fatalf("%s: Len %d %d, want %d %d", what, n, left, len(m.records), m.many-m.used)
	}
	if l.Broken() != m.broken {
		t.Fatalf("%s: Broken %v, want %v", what, l.Broken(), m.broken)
	}
}

// both is a log on a disk, and its model on a copy of it.
func both(d *disk.Disk, from, many int, epoch uint32) (*log.Log, *model) {
	return opened(d, from, many, epoch), modelled(d.Copy(), from, many, epoch)
}

// truths are all lists of n of them.
func truths(n int) [][]bool {
	all := [][]bool{{}}
	for range n {
		var more [][]bool
		for _, l := range all {
			more = append(more, append(slices.Clone(l), false), append(slices.Clone(l), true))
		}
		all = more
	}
	return all
}

// waiting is how many writes wait.
func waiting(d *disk.Disk) int {
	n := 0
	for range d.Waits() {
		n++
	}
	return n
}

// sizes are those of records at which something begins.
func sizes() []int {
	return []int{0, 1, 2, 49, 50, 51, 99, 100, 101, 150, 151, 3949, 3950, 3951, 3999, 4000}
}

// P12.1

func TestOpen(t *testing.T) {
	for _, n := range []int{1, 2, 8, 200, 4096} {
		d := made(n)
		for _, x := range [][2]int{{0, n}, {0, 1}, {n - 1, 1}, {n / 2, n - n/2}} {
			for _, epoch := range []uint32{0, 1, 5, math.MaxUint32} {
				l, e := log.Open(d, x[0], x[1], epoch)
				if l == nil || e != api.OK {
					t.Fatalf("Open of %d, %v: %v %v", n, x, l, e)
				}
				(&model{many: x[1]}).as(t, "a new one", l)
			}
		}
	}
}

func TestOpenRefuses(t *testing.T) {
	var zero disk.Disk
	none, _ := disk.New(0)
	for what, d := range map[string]*disk.Disk{"nil": nil, "zero": &zero, "refused": none} {
		for _, x := range [][2]int{{0, 1}, {0, 0}, {-1, 5}, {3, -2}, {math.MaxInt, math.MaxInt}} {
			if l, e := log.Open(d, x[0], x[1], 5); l != nil || e != api.ErrNil {
				t.Errorf("%s: Open(%d, %d): %v %v", what, x[0], x[1], l, e)
			}
		}
	}
	for _, n := range []int{1, 8, 4096} {
		d := made(n)
		c := d.Copy()
		for _, x := range [][2]int{
			{0, 0}, {0, -1}, {n, 0}, {n, 1}, {n, -1}, {-1, 1}, {-1, 2}, {-1, n}, {-n, n}, {0, n + 1}, {1, n}, {n - 1, 2}, {n + 1, 1}, {n + 1, -1},
			{math.MaxInt, 1}, {math.MaxInt, math.MaxInt}, {0, math.MaxInt}, {1, math.MaxInt}, {0, math.MinInt}, {math.MinInt, 1},
			{math.MinInt, math.MinInt}, {math.MinInt, math.MaxInt}, {math.MaxInt, math.MinInt}, {1, 1 << 32}, {1 << 32, 1},
		} {
			if l, e := log.Open(d, x[0], x[1], 5); l != nil || e != api.ErrArg {
				t.Errorf("Open of %d(%d, %d): %v %v", n, x[0], x[1], l, e)
			}
		}
		if !disk.Same(c, d) {
			t.Errorf("Open of %d changed the disk", n)
		}
	}
}

// row is sectors of a log of the Epoch 5, and the records that are read.
type row struct{ sectors, records [][]byte }

func crafted() map[string]row {
	hi, ho := []byte("hi"), []byte("ho")
	long := data(50, 3)
	p := func(number int, marks byte, data []byte) []byte { return piece(5, number, marks, data) }
	bad := func(epoch, number uint32, marks, many byte, data []byte) []byte {
		return sealed(unsealed(epoch, number, marks, many, data))
	}
	type l = [][]byte
	return map[string]row{
		"one":                        {l{p(0, 3, hi)}, l{hi}},
		"of none":                    {l{p(0, 3, nil)}, l{{}}},
		"three of none":              {l{p(0, 3, nil), p(1, 3, nil), p(2, 3, nil)}, l{{}, {}, {}}},
		"two":                        {l{p(0, 3, hi), p(1, 3, ho)}, l{hi, ho}},
		"of two pieces":              {l{p(0, 1, long), p(1, 2, ho)}, l{append(slices.Clone(long), ho...)}},
		"of three, then one":         {l{p(0, 1, long), p(1, 0, long), p(2, 2, ho), p(3, 3, hi)}, l{slices.Concat(long, long, ho), hi}},
		"fewer ahead":                {l{p(0, 1, hi), p(1, 2, ho)}, l{[]byte("hiho")}},
		"fewer in the midst":         {l{p(0, 1, hi), p(1, 0, ho), p(2, 0, long), p(3, 2, hi)}, l{slices.Concat(hi, ho, long, hi)}},
		"none ahead":                 {l{p(0, 1, nil), p(1, 2, ho)}, l{ho}},
		"none in the midst":          {l{p(0, 1, hi), p(1, 0, nil), p(2, 2, ho)}, l{[]byte("hiho")}},
		"none behind":                {l{p(0, 1, long), p(1, 2, nil)}, l{long}},
		"none at all":                {l{p(0, 1, nil), p(1, 0, nil), p(2, 2, nil)}, l{{}}},
		"not ended":                  {l{p(0, 3, hi), p(1, 1, long), p(2, 0, long)}, l{hi}},
		"not begun":                  {l{p(0, 2, hi), p(1, 3, ho)}, nil},
		"neither":                    {l{p(0, 0, hi), p(1, 3, ho)}, nil},
		"not begun, behind one":      {l{p(0, 3, hi), p(1, 2, ho), p(2, 3, hi)}, l{hi}},
		"neither, behind one":        {l{p(0, 3, hi), p(1, 0, ho), p(2, 3, hi)}, l{hi}},
		"begun twice":                {l{p(0, 1, long), p(1, 1, ho), p(2, 2, hi)}, nil},
		"whole within another":       {l{p(0, 1, long), p(1, 3, ho), p(2, 3, hi)}, nil},
		"another number":             {l{p(0, 3, hi), p(2, 3, ho)}, l{hi}},
		"not from 0":                 {l{p(1, 3, hi), p(2, 3, ho)}, nil},
		"the same number":            {l{p(0, 3, hi), p(0, 3, ho)}, l{hi}},
		"another epoch":              {l{p(0, 3, hi), piece(6, 1, 3, ho)}, l{hi}},
		"another epoch's end":        {l{p(0, 1, long), piece(4, 1, 2, ho)}, nil},
		"a gap":                      {l{p(0, 3, hi), make([]byte, 64), p(2, 3, ho)}, l{hi}},
		"a gap in the midst":         {l{p(0, 1, long), make([]byte, 64), p(2, 2, ho)}, nil},
		"noughts":                    {l{make([]byte, 64)}, nil},
		"a mark too many":            {l{p(0, 3, hi), p(1, 7, ho)}, l{hi}},
		"a high mark too many":       {l{p(0, 3, hi), p(1, 0x83, ho)}, l{hi}},
		"a mark too many in a midst": {l{p(0, 1, long), p(1, 4, ho), p(2, 2, hi)}, nil},
		"51 bytes":                   {l{bad(5, 0, 3, 51, data(50, 1))}, nil},
		"54 bytes":                   {l{bad(5, 0, 3, 54, data(50, 1))}, nil},
		"255 bytes":                  {l{bad(5, 0, 3, 255, data(50, 1))}, nil},
		"51 noughts":                 {l{bad(5, 0, 3, 51, nil)}, nil},
		"50 noughts":                 {l{bad(5, 0, 3, 50, nil)}, l{make([]byte, 50)}},
		"no nought behind":           {l{bad(5, 0, 3, 2, []byte("hi\x01"))}, nil},
		"no nought behind none":      {l{bad(5, 0, 3, 0, []byte("hi"))}, nil},
		"no nought at last":          {l{bad(5, 0, 3, 49, data(50, 1))}, nil},
		"no sum":                     {l{append(unsealed(5, 0, 3, 2, hi), 0, 0, 0, 0)}, nil},
		"another sum":                {l{append(unsealed(5, 0, 3, 2, hi), piece(5, 0, 3, ho)[60:]...)}, nil},
	}
}

func TestOpenReads(t *testing.T) {
	for what, x := range crafted() {
		for _, from := range []int{0, 3} {
			for _, waits := range []bool{false, true} {
				d := made(12)
				put(d, from, x.sectors...)
				if waits {
					// What is read is what was written last.
					d = made(12)
					for i, b := range x.sectors {
						must(d.Write(from+i, b))
					}
				}
				l, e := log.Open(d, from, 6, 5)
				if e != api.OK {
					t.Fatalf("%s: %v", what, e)
				}
				if all := listed(t, l); !alike(all, x.records) {
					t.Errorf("%s, from %d: %s, want %s", what, from, told(all), told(x.records))
				}
				modelled(d, from, 6, 5).as(t, what, l)
			}
		}
	}
}

func TestOpenReadsItsSectorsAlone(t *testing.T) {
	records := [][]byte{data(3, 1), data(120, 2), data(50, 3)}
	for many := 1; many <= 8; many++ {
		d := made(12)
		put(d, 2, laid(5, 0, records...)...)
		m := modelled(d, 2, many, 5)
		m.as(t, fmt.Sprint("of ", many), opened(d, 2, many, 5))
		want := []int{0, 1, 1, 1, 2, 3, 3, 3, 3}[many]
		if len(m.records) != want {
			t.Fatalf("of %d: %d records, want %d", many, len(m.records), want)
		}
	}
	// The first piece lies in the first sector.
	d := made(12)
	put(d, 2, laid(5, 0, records...)...)
	for from := range 12 {
		n, left := opened(d, from, 12-from, 5).Len()
		if from == 2 && (n != 3 || left != 5) || from != 2 && (n != 0 || left != 12-from) {
			t.Errorf("from %d: %d %d", from, n, left)
		}
	}
}

func TestEachBitOfAPieceCounts(t *testing.T) {
	for _, n := range []int{0, 2, 32, 50} {
		good := piece(5, 1, 3, data(n, 1))
		for bit := range 512 {
			b := slices.Clone(good)
			b[bit/8] ^= 1 << (bit % 8)
			d := made(3)
			put(d, 0, piece(5, 0, 3, []byte("hi")), b, piece(5, 2, 3, []byte("ho")))
			if k, left := opened(d, 0, 3, 5).Len(); k != 1 || left != 2 {
				t.Fatalf("%d bytes, bit %d is another one: %d %d", n, bit, k, left)
			}
			// With a sum that fits it is what it says, if it may be.
			put(d, 1, sealed(b[:60]))
			modelled(d, 0, 3, 5).as(t, fmt.Sprintf("%d bytes, bit %d is another one, sealed", n, bit), opened(d, 0, 3, 5))
		}
	}
}

func TestOpenReadsAnything(t *testing.T) {
	chance := rand.New(rand.NewSource(1))
	most := 0
	for range 4000 {
		d := made(8)
		underWay := false
		for number := range 8 {
			marks := byte(chance.Intn(2) * 2)
			if !underWay {
				marks++
			}
			underWay = marks < 2
			epoch, which, b := uint32(5), uint32(number), data(chance.Intn(51), number)
			many := byte(len(b))
			switch chance.Intn(40) {
			case 0:
				epoch = uint32(chance.Intn(8))
			case 1:
				which = uint32(chance.Intn(8))
			case 2:
				marks = byte(chance.Intn(6))
			case 3:
				many = byte(chance.Intn(60))
			}
			put(d, number, sealed(unsealed(epoch, which, marks, many, b)))
		}
		m := modelled(d, 0, 8, 5)
		m.as(t, "anything", opened(d, 0, 8, 5))
		most = max(most, len(m.records))
	}
	if most < 5 {
		t.Errorf("at most %d records were read", most)
	}
}

func TestOpenDoesNothing(t *testing.T) {
	d := made(12)
	put(d, 2, laid(5, 0, data(120, 1), data(3, 2))...)
	must(d.Write(9, make([]byte, 64)))
	must(d.Arm(0))
	c := d.Copy()
	l := opened(d, 2, 8, 5)
	listed(t, l)
	l.Len()
	l.Needs(50)
	l.Broken()
	l.Copy(d.Copy())
	if !disk.Same(c, d) {
		t.Error("the disk is another one")
	}
}

func TestAppendWrites(t *testing.T) {
	for _, n := range sizes() {
		for _, epoch := range []uint32{0, 5, 0x01020304, math.MaxUint32} {
			d, records := made(100), [][]byte{data(n, 1)}
			l := opened(d, 3, 90, epoch)
			if e := l.Append(records[0]); e != api.OK {
				t.Fatalf("Append(%d bytes): %v", n, e)
			}
			c := made(100)
			put(c, 3, laid(epoch, 0, records...)...)
			if !disk.Same(c, d) {
				t.Fatalf("Append(%d bytes): the disk is another one", n)
			}
			modelled(c, 3, 90, epoch).as(t, "appended", l)
			// One more, behind.
			records = append(records, data(120, 2))
			must(l.Append(records[1]))
			put(c, 3, laid(epoch, 0, records...)...)
			if !disk.Same(c, d) {
				t.Fatalf("Append(120 bytes) behind %d: the disk is another one", n)
			}
			m := modelled(c, 3, 90, epoch)
			if !alike(m.records, records) {
				t.Fatalf("%d bytes: %s", n, told(m.records))
			}
			m.as(t, "appended twice", l)
			m.as(t, "opened anew", opened(d, 3, 90, epoch))
		}
	}
}

func TestAPiece(t *testing.T) {
	d, _ := disk.New(4)
	l := opened(d, 1, 3, 0x0a0b0c0d)
	must(l.Append([]byte("hi")))
	must(l.Append(data(51, 1)))
	b, _ := d.Lies(1)
	want := append([]byte{0x0a, 0x0b, 0x0c, 0x0d, 0, 0, 0, 0, 3, 2, 'h', 'i'}, make([]byte, 48)...)
	if !bytes.Equal(b[:60], want) || !bytes.Equal(b, sealed(want)) {
		t.Errorf("hi: % x", b)
	}
	b, _ = d.Lies(2)
	want = append([]byte{0x0a, 0x0b, 0x0c, 0x0d, 0, 0, 0, 1, 1, 50}, data(51, 1)[:50]...)
	if !bytes.Equal(b, sealed(want)) {
		t.Errorf("50 of 51 bytes: % x", b)
	}
	b, _ = d.Lies(3)
	want = append([]byte{0x0a, 0x0b, 0x0c, 0x0d, 0, 0, 0, 2, 2, 1, data(51, 1)[50]}, make([]byte, 49)...)
	if !bytes.Equal(b, sealed(want)) {
		t.Errorf("the last of 51 bytes: % x", b)
	}
}

func TestAppendRefuses(t *testing.T) {
	d := made(100)
	for _, n := range []int{4001, 4002, 4050, 5000, 1 << 16, 1 << 20} {
		// That it is long comes ahead of that there are too few sectors.
		for _, many := range []int{1, 79, 80, 81, 100} {
			l, m := both(d, 0, many, 5)
			if e := l.Append(make([]byte, n)); e != api.ErrLong {
				t.Errorf("Append(%d bytes) of %d: %v", n, many, e)
			}
			m.as(t, "refused", l)
			if !disk.Same(m.d, d) {
				t.Errorf("Append(%d bytes): the disk is another one", n)
			}
		}
	}
}

func TestAppendFull(t *testing.T) {
	for _, n := range sizes() {
		need := max(1, (n+49)/50)
		for many := max(1, need-1); many <= need+1; many++ {
			for ahead := 0; ahead < 2; ahead++ {
				d := made(90)
				l, m := both(d, 2, many+ahead, 5)
				if ahead == 1 {
					must(l.Append([]byte("hi")))
					must(m.append([]byte("hi")))
				}
				// That it is full comes ahead of that the disk fails.
				if need > many {
					must(d.Arm(0))
					must(m.d.Arm(0))
				}
				want := api.OK
				if need > many {
					want = api.ErrLogFull
				}
				if e, f := l.Append(data(n, 1)), m.append(data(n, 1)); e != want || f != want {
					t.Errorf("Append(%d bytes) of %d: %v %v, want %v", n, many, e, f, want)
				}
				m.as(t, fmt.Sprintf("%d bytes of %d", n, many), l)
				if !disk.Same(m.d, d) {
					t.Errorf("Append(%d bytes) of %d: the disk is another one", n, many)
				}
			}
		}
	}
}

func TestAppendUpToTheLastSector(t *testing.T) {
	d := made(4096)
	l := opened(d, 0, 4096, 5)
	for i := range 4096 {
		if e := l.Append(data(i%51, i)); e != api.OK {
			t.Fatalf("Append %d: %v", i, e)
		}
	}
	if e := l.Append(nil); e != api.ErrLogFull {
		t.Errorf("Append of a full one: %v", e)
	}
	for what, k := range map[string]*log.Log{"it": l, "opened anew": opened(d, 0, 4096, 5)} {
		if n, left := k.Len(); n != 4096 || left != 0 {
			t.Errorf("%s: Len %d %d", what, n, left)
		}
		for number, b := range k.Records() {
			if !bytes.Equal(b, data(number%51, number)) {
				t.Errorf("%s: record %d: % x", what, number, b)
			}
		}
	}
}

// lengths are those of records of one piece, and of several.
func lengths() []int { return []int{0, 1, 50, 51, 100, 120, 200, 201} }

func TestAppendFails(t *testing.T) {
	for _, n := range lengths() {
		need := max(1, (n+49)/50)
		// Both steps' writes and syncs: one step, if there is one piece alone.
		first, all := need, need+2
		if need == 1 {
			first, all = 0, 2
		}
		for left := -1; left <= all+2; left++ {
			d := made(20)
			put(d, 2, laid(5, 0, data(60, 1), data(3, 2))...)
			must(d.Arm(left))
			l, m := both(d, 2, 16, 5)
			want := api.OK
			switch {
			case left >= 0 && left < first:
				want = api.ErrDisk
			case left >= 0 && left < all:
				want = api.ErrUnsure
			}
			e, f := l.Append(data(n, 3)), m.append(data(n, 3))
			if e != want || f != want {
				t.Errorf("Append(%d bytes), %d left: %v %v, want %v", n, left, e, f, want)
			}
			what := fmt.Sprintf("%d bytes, %d left", n, left)
			m.as(t, what, l)
			// What waits, what lies, and how many are left.
			if !disk.Same(m.d, d) {
				t.Errorf("%s: the disk is another one", what)
			}
			if l.Broken() != (want == api.ErrUnsure) {
				t.Errorf("%s: Broken %v", what, l.Broken())
			}
			if k, _ := l.Len(); want != api.OK && k != 2 || want == api.OK && k != 3 {
				t.Errorf("%s: Len %d", what, k)
			}
		}
	}
}

func TestAppendWritesInOrder(t *testing.T) {
	d := made(20)
	l := opened(d, 2, 16, 5)
	must(d.Arm(4))
	if e := l.Append(data(220, 1)); e != api.ErrDisk {
		t.Fatalf("Append: %v", e)
	}
	var at []int
	for _, x := range d.Waits() {
		at = append(at, x)
	}
	if !slices.Equal(at, []int{2, 3, 4, 5}) {
		t.Errorf("Waits: %v", at)
	}
	// It was the first sync that was refused.
	must(d.Arm(6))
	if e := l.Append(data(220, 1)); e != api.ErrUnsure {
		t.Fatalf("Append: %v", e)
	}
	at = nil
	for _, x := range d.Waits() {
		at = append(at, x)
	}
	if !slices.Equal(at, []int{6}) {
		t.Errorf("Waits: %v", at)
	}
}

func TestBehindErrDiskItGoesOn(t *testing.T) {
	for _, n := range []int{51, 120, 201, 400} {
		for _, next := range lengths() {
			for _, crash := range []bool{false, true} {
				d := made(20)
				l, m := both(d, 1, 18, 5)
				must(l.Append(data(7, 1)))
				must(m.append(data(7, 1)))
				must(d.Arm(1))
				must(m.d.Arm(1))
				if e, f := l.Append(data(n, 2)), m.append(data(n, 2)); e != api.ErrDisk || f != api.ErrDisk {
					t.Fatalf("Append(%d bytes): %v %v", n, e, f)
				}
				m.as(t, "failed", l)
				must(d.Arm(-1))
				must(m.d.Arm(-1))
				if crash {
					must(d.Crash(true))
					must(m.d.Crash(true))
				}
				must(l.Append(data(next, 3)))
				must(m.append(data(next, 3)))
				m.as(t, "appended then", l)
				if !disk.Same(m.d, d) {
					t.Errorf("%d bytes behind %d that failed: the disk is another one", next, n)
				}
				must(d.Crash())
				again := opened(d, 1, 18, 5)
				m.as(t, "opened anew", again)
				if !alike(m.records, [][]byte{data(7, 1), data(next, 3)}) {
					t.Errorf("%d bytes behind %d that failed: %s", next, n, told(m.records))
				}
			}
		}
	}
}

func TestABrokenOneDoesNothing(t *testing.T) {
	for _, n := range lengths() {
		d := made(20)
		l, m := both(d, 1, 12, 5)
		must(l.Append(data(60, 1)))
		must(m.append(data(60, 1)))
		count := max(1, (n+49)/50) + 1
		if n <= 50 {
			count = 1
		}
		must(d.Arm(count))
		must(m.d.Arm(count))
		if e, f := l.Append(data(n, 2)), m.append(data(n, 2)); e != api.ErrUnsure || f != api.ErrUnsure {
			t.Fatalf("Append(%d bytes): %v %v", n, e, f)
		}
		for _, crash := range []bool{false, true} {
			if crash {
				must(d.Crash(true))
			}
			must(d.Arm(-1))
			c := d.Copy()
			// That it is broken comes ahead of all about the record.
			for _, k := range []int{0, 1, 50, 51, 600, 4000, 4001, 1 << 16} {
				if e := l.Append(make([]byte, k)); e != api.ErrBroken {
					t.Errorf("Append(%d bytes) of a broken one: %v", k, e)
				}
			}
			if !disk.Same(c, d) {
				t.Error("a broken one changed the disk")
			}
			m.as(t, "broken", l)
			if k, e := l.Needs(51); k != 2 || e != api.OK {
				t.Errorf("Needs of a broken one: %d %v", k, e)
			}
		}
	}
}

// P12.2

func TestRecords(t *testing.T) {
	d := made(120)
	l := opened(d, 0, 120, 5)
	var want [][]byte
	for i, n := range []int{0, 3, 50, 51, 0, 4000, 120} {
		if all := listed(t, l); !alike(all, want) {
			t.Fatalf("Records: %s, want %s", told(all), told(want))
		}
		must(l.Append(data(n, i)))
		want = append(want, data(n, i))
	}
	// They may be left anywhere, and gone over again.
	all := l.Records()
	for stop := range len(want) + 1 {
		var got [][]byte
		for number, b := range all {
			if number == stop {
				break
			}
			got = append(got, b)
		}
		if !alike(got, want[:stop]) {
			t.Errorf("left at %d: %s", stop, told(got))
		}
	}
	var got [][]byte
	for _, b := range all {
		got = append(got, b)
	}
	if !alike(got, want) {
		t.Errorf("Records again: %s, want %s", told(got), told(want))
	}
	// Two at once.
	for i, a := range all {
		for j, b := range all {
			if i == j && !bytes.Equal(a, b) {
				t.Errorf("record %d: % x, % x", i, a, b)
			}
		}
	}
}

func TestRecordsAreAsWhenAskedFor(t *testing.T) {
	for many := range 10 {
		d := made(30)
		l := opened(d, 0, 30, 5)
		var want [][]byte
		for i := range many {
			must(l.Append(data(3, i)))
			want = append(want, data(3, i))
		}
		all := l.Records()
		must(l.Append(data(3, 77)))
		check := func() {
			t.Helper()
			var got [][]byte
			for number, b := range all {
				got = append(got, b)
				if number == 0 {
					must(l.Append(data(3, 78)))
				}
			}
			if !alike(got, want) {
				t.Errorf("Records of %d: %s", many, told(got))
			}
		}
		check()
		check()
		// Whatever becomes of the disk.
		put(d, 0, make([]byte, 64))
		check()
	}
}

func TestLen(t *testing.T) {
	for _, many := range []int{1, 2, 30} {
		l := opened(made(40), 4, many, 5)
		n, left := 0, many
		for i := 0; left > 0; i++ {
			if k, r := l.Len(); k != n || r != left {
				t.Errorf("Len: %d %d, want %d %d", k, r, n, left)
			}
			size := i % 3 * 50
			if e := l.Append(data(size, i)); max(1, i%3) <= left {
				must(e)
				n, left = n+1, left-max(1, i%3)
			}
		}
		if k, r := l.Len(); k != n || r != 0 {
			t.Errorf("Len of a full one: %d %d, want %d 0", k, r, n)
		}
	}
}

func TestNeeds(t *testing.T) {
	d := made(8)
	full := opened(d, 0, 1, 5)
	must(full.Append(nil))
	must(d.Arm(0))
	for _, l := range []*log.Log{full, opened(d, 0, 8, 5), opened(d, 7, 1, 5)} {
		for n := range 4001 {
			want := len(laid(5, 0, make([]byte, n)))
			if k, e := l.Needs(n); k != want || e != api.OK {
				t.Fatalf("Needs(%d): %d %v, want %d", n, k, e, want)
			}
		}
		for n, want := range map[int]int{0: 1, 1: 1, 50: 1, 51: 2, 100: 2, 101: 3, 3950: 79, 3951: 80, 4000: 80} {
			if k, e := l.Needs(n); k != want || e != api.OK {
				t.Errorf("Needs(%d): %d %v, want %d", n, k, e, want)
			}
		}
		for _, n := range []int{-1, -2, -50, -4001, math.MinInt, math.MinInt + 1} {
			if k, e := l.Needs(n); k != 0 || e != api.ErrArg {
				t.Errorf("Needs(%d): %d %v", n, k, e)
			}
		}
		for _, n := range []int{4001, 4002, 1 << 16, 1 << 32, math.MaxInt - 48, math.MaxInt} {
			if k, e := l.Needs(n); k != 0 || e != api.ErrLong {
				t.Errorf("Needs(%d): %d %v", n, k, e)
			}
		}
	}
}

func TestCopy(t *testing.T) {
	for many := range 10 {
		for _, armed := range []int{-1, 1} {
			d := made(30)
			l, m := both(d, 2, 25, 5)
			for i := range many {
				must(l.Append(data(i*9, i)))
				must(m.append(data(i*9, i)))
			}
			// A broken one, too.
			must(d.Arm(armed))
			must(m.d.Arm(armed))
			l.Append(data(9, 1))
			m.append(data(9, 1))
			must(d.Arm(-1))
			must(m.d.Arm(-1))
			e := d.Copy()
			c, n := l.Copy(e), m.copied(m.d.Copy())
			if c == nil || c == l {
				t.Fatalf("Copy: %v", c)
			}
			n.as(t, "a copy", c)
			// Each goes on apart.
			if got, want := l.Append(data(70, 20)), m.append(data(70, 20)); got != want {
				t.Errorf("Append: %v, want %v", got, want)
			}
			n.as(t, "a copy, the other one appended to", c)
			if got, want := c.Append(data(80, 21)), n.append(data(80, 21)); got != want {
				t.Errorf("Append to a copy: %v, want %v", got, want)
			}
			m.as(t, "its copy appended to", l)
			n.as(t, "a copy, appended to", c)
			if !disk.Same(m.d, d) || !disk.Same(n.d, e) {
				t.Error("the disks are others")
			}
			// One breaks, the other one doesn't.
			must(e.Arm(0))
			must(n.d.Arm(0))
			c.Append(nil)
			n.append(nil)
			m.as(t, "its copy broken", l)
			n.as(t, "a copy, broken", c)
			if armed == -1 && (l.Broken() || !c.Broken()) || armed == 1 && !l.Broken() {
				t.Errorf("Broken: %v %v", l.Broken(), c.Broken())
			}
		}
	}
}

func TestCopyOfNone(t *testing.T) {
	var zero disk.Disk
	l := opened(made(4), 0, 4, 5)
	must(l.Append([]byte("hi")))
	for what, d := range map[string]*disk.Disk{"nil": nil, "zero": &zero} {
		if c := l.Copy(d); c != nil {
			t.Errorf("Copy on a disk that is %s: %v", what, c)
		}
	}
	// A disk that is no copy may be anything: nothing panics.
	small := made(1)
	c := l.Copy(small)
	c.Append(nil)
	c.Append(data(120, 1))
	c.Len()
	c.Copy(small.Copy())
	listed(t, c)
	if n, left := l.Len(); n != 1 || left != 3 || l.Broken() {
		t.Errorf("behind copies: %d %d %v", n, left, l.Broken())
	}
}

func TestNoLog(t *testing.T) {
	var zero log.Log
	refused, _ := log.Open(made(4), 0, 5, 5)
	for what, l := range map[string]*log.Log{"nil": nil, "zero": &zero, "refused": refused} {
		for _, n := range []int{0, 1, 50, 4000, 4001, 1 << 16} {
			if e := l.Append(make([]byte, n)); e != api.ErrNil {
				t.Errorf("%s: Append(%d bytes): %v", what, n, e)
			}
		}
		if l.Records() == nil || len(listed(t, l)) != 0 {
			t.Errorf("%s: Records: %s", what, told(listed(t, l)))
		}
		if n, left := l.Len(); n != 0 || left != 0 {
			t.Errorf("%s: Len: %d %d", what, n, left)
		}
		for _, n := range []int{-1, 0, 1, 4000, 4001, math.MinInt, math.MaxInt} {
			if k, e := l.Needs(n); k != 0 || e != api.ErrNil {
				t.Errorf("%s: Needs(%d): %d %v", what, n, k, e)
			}
		}
		if l.Broken() {
			t.Errorf("%s: Broken", what)
		}
		if l.Copy(made(4)) != nil || l.Copy(nil) != nil {
			t.Errorf("%s: Copy", what)
		}
	}
}

// P12.3

// stale are disks with a log of the Epoch 5 of these records, from 1 on, behind which something lies from ahead.
func stale(records [][]byte) map[string]*disk.Disk {
	all := map[string]*disk.Disk{"nothing": made(14), "another epoch's": made(14), "a failed record's": made(14), "a lost end's": made(14)}
	put(all["another epoch's"], 1, laid(4, 0, data(60, 1), data(3, 2), data(3, 3), data(3, 4), data(120, 5))...)
	for _, d := range all {
		put(d, 1, laid(5, 0, records...)...)
	}
	// Of six pieces some four lie there, or all five ahead of the last one.
	d := all["a failed record's"]
	must(d.Arm(4))
	opened(d, 1, 12, 5).Append(data(280, 6))
	must(d.Crash(true, true, true, true))
	d = all["a lost end's"]
	must(d.Arm(7))
	opened(d, 1, 12, 5).Append(data(280, 6))
	must(d.Crash(false))
	return all
}

func TestCrash(t *testing.T) {
	for _, ahead := range [][][]byte{nil, {data(9, 1)}, {data(0, 1), data(70, 2)}} {
		for what, from := range stale(ahead) {
			for _, n := range lengths() {
				for left := -1; left <= 8; left++ {
					crashed(t, what, from, ahead, data(n, 9), left)
				}
			}
		}
	}
}

// crashed appends a record to a log on a copy of a disk that stops, and holds what each crash leaves against the promise.
func crashed(t *testing.T, what string, from *disk.Disk, ahead [][]byte, record []byte, left int) {
	t.Helper()
	d := from.Copy()
	l := opened(d, 1, 12, 5)
	if all := listed(t, l); !alike(all, ahead) {
		t.Fatalf("%s: %s, want %s", what, told(all), told(ahead))
	}
	must(d.Arm(left))
	e := l.Append(record)
	behind := append(slices.Clone(ahead), record)
	for _, keep := range truths(waiting(d)) {
		c := d.Copy()
		must(c.Crash(keep...))
		again := opened(c, 1, 12, 5)
		all := listed(t, again)
		was, is := alike(all, ahead), alike(all, behind)
		if e == api.OK && !is || e == api.ErrDisk && !was || e == api.ErrUnsure && !was && !is {
			t.Fatalf("behind %s, %d bytes, %d left: %v, crash %v: %s", what, len(record), left, e, keep, told(all))
		}
		for _, epoch := range []uint32{0, 6, 5 << 8, math.MaxUint32} {
			if n, room := opened(c, 1, 12, epoch).Len(); n != 0 || room != 12 {
				t.Fatalf("behind %s: with the epoch %d: %d %d", what, epoch, n, room)
			}
		}
		// What lies outside isn't touched, and the log goes on.
		for _, at := range []int{0, 13} {
			a, _ := c.Lies(at)
			b, _ := from.Lies(at)
			if !bytes.Equal(a, b) {
				t.Fatalf("behind %s: sector %d: % x", what, at, a)
			}
		}
		must(again.Append(data(101, 10)))
		must(c.Crash())
		if more := listed(t, opened(c, 1, 12, 5)); !alike(more, append(all, data(101, 10))) {
			t.Fatalf("behind %s, %d bytes, %d left, crash %v, appended: %s", what, len(record), left, keep, told(more))
		}
	}
}

func TestAnotherEpoch(t *testing.T) {
	// Each Epoch's log begins anew upon the last one's, and none reads another one's.
	d := made(20)
	for epoch := range uint32(7) {
		l := opened(d, 2, 15, epoch)
		if n, left := l.Len(); n != 0 || left != 15 {
			t.Fatalf("epoch %d: %d %d", epoch, n, left)
		}
		var want [][]byte
		for i := range 7 - epoch {
			b := data(int(i)*20, int(epoch*8+i))
			must(l.Append(b))
			want = append(want, b)
		}
		must(d.Crash())
		if all := listed(t, opened(d, 2, 15, epoch)); !alike(all, want) {
			t.Errorf("epoch %d: %s, want %s", epoch, told(all), told(want))
		}
		for other := range uint32(8) {
			if n, left := opened(d, 2, 15, other).Len(); other != epoch && (n != 0 || left != 15) {
				t.Errorf("epoch %d, opened with %d: %d %d", epoch, other, n, left)
			}
		}
	}
}

func TestHistories(t *testing.T) {
	unsure := 0
	for seed := range int64(150) {
		chance := rand.New(rand.NewSource(seed))
		d := made(40)
		records := [][]byte{}
		l := opened(d, 1, 38, 5)
		for i := range 60 {
			if chance.Intn(2) == 0 {
				must(d.Arm(chance.Intn(9)))
			}
			record := data(chance.Intn(260), i)
			e := l.Append(record)
			behind := append(slices.Clone(records), record)
			if e == api.OK {
				records = behind
			}
			if !alike(listed(t, l), records) {
				t.Fatalf("seed %d: %v: %s, want %s", seed, e, told(listed(t, l)), told(records))
			}
			if e == api.ErrDisk && chance.Intn(2) == 0 {
				// It goes on without a crash.
				must(d.Arm(-1))
				continue
			}
			keep := make([]bool, waiting(d))
			for i := range keep {
				keep[i] = chance.Intn(2) == 0
			}
			must(d.Crash(keep...))
			l = opened(d, 1, 38, 5)
			all := listed(t, l)
			if e == api.ErrUnsure && alike(all, behind) {
				records = behind
				unsure++
			}
			if !alike(all, records) {
				t.Fatalf("seed %d: %v, crash %v: %s, want %s", seed, e, keep, told(all), told(records))
			}
		}
	}
	if unsure == 0 {
		t.Error("no record was there that was unsure")
	}
}

func TestAnyCalls(t *testing.T) {
	type pair struct {
		l *log.Log
		m *model
		d *disk.Disk
	}
	for seed := range int64(150) {
		chance := rand.New(rand.NewSource(seed))
		d := made(30)
		l, m := both(d, 3, 25, 5)
		all := []pair{{l, m, d}}
		for step := range 80 {
			x := &all[chance.Intn(len(all))]
			what := fmt.Sprintf("seed %d, step %d", seed, step)
			switch n := chance.Intn(12); {
			case n < 7:
				b := data(chance.Intn(180), step)
				if e, f := x.l.Append(b), x.m.append(b); e != f {
					t.Fatalf("%s: Append(%d bytes): %v, want %v", what, len(b), e, f)
				}
			case n < 9:
				left := chance.Intn(12) - 2
				must(x.d.Arm(left))
				must(x.m.d.Arm(left))
			case n < 10:
				e := x.d.Copy()
				all = append(all, pair{x.l.Copy(e), x.m.copied(x.m.d.Copy()), e})
			default:
				keep := truths(3)[chance.Intn(8)]
				must(x.d.Crash(keep...))
				must(x.m.d.Crash(keep...))
				epoch := uint32(5 + chance.Intn(5)/4)
				x.l, x.m = opened(x.d, 3, 25, epoch), modelled(x.m.d, 3, 25, epoch)
			}
			for _, y := range all {
				y.m.as(t, what, y.l)
				if !disk.Same(y.m.d, y.d) {
					t.Fatalf("%s: the disk is another one", what)
				}
			}
		}
	}
}

// The rules that hold everywhere.

func TestBytesAreNotChangedAndNotKept(t *testing.T) {
	for _, n := range []int{0, 1, 49, 50, 51, 99, 100, 101} {
		room := append(data(n, 1), data(30, 2)...)
		own := slices.Clone(room)
		d := made(12)
		l := opened(d, 0, 12, 5)
		must(l.Append(room[:n]))
		if !bytes.Equal(room, own) {
			t.Errorf("%d bytes: Append changed % x to % x", n, own, room)
		}
		clear(room)
		must(l.Append([]byte("hi")))
		want := [][]byte{own[:n], []byte("hi")}
		if all := listed(t, l); !alike(all, want) {
			t.Errorf("%d bytes, behind a change: %s", n, told(all))
		}
		if all := listed(t, opened(d, 0, 12, 5)); !alike(all, want) {
			t.Errorf("%d bytes, opened anew: %s", n, told(all))
		}
		if !bytes.Equal(room, make([]byte, n+30)) {
			t.Errorf("%d bytes: a later Append changed what was handed in: % x", n, room)
		}
	}
}

func TestAnswersAreNewMemory(t *testing.T) {
	d := made(20)
	l, m := both(d, 0, 20, 5)
	for i, n := range []int{3, 50, 120, 1} {
		must(l.Append(data(n, i)))
		must(m.append(data(n, i)))
	}
	for _, k := range []*log.Log{l, opened(d, 0, 20, 5), l.Copy(d.Copy())} {
		c := k.Copy(d.Copy())
		all := k.Records()
		for range 2 {
			for _, b := range all {
				// The room behind it, too.
				b = b[:cap(b)]
				for i := range b {
					b[i] = 0xee
				}
				_ = append(b, 1, 2, 3)
			}
			m.as(t, "behind a change of an answer", k)
			m.as(t, "a copy, behind a change of an answer", c)
		}
		m.as(t, "the first one", l)
		m.as(t, "opened anew", opened(d, 0, 20, 5))
	}
}

func TestLogsAreApart(t *testing.T) {
	d := made(20)
	a, b := opened(d, 0, 10, 5), opened(d, 10, 10, 5)
	for i := range 5 {
		must(a.Append(data(60, i)))
		must(b.Append(data(70, i)))
	}
	for what, l := range map[string]*log.Log{"it": a, "opened anew": opened(d, 0, 10, 5)} {
		modelled(d, 0, 10, 5).as(t, what, l)
		if n, left := l.Len(); n != 5 || left != 0 {
			t.Errorf("%s: %d %d", what, n, left)
		}
	}
	modelled(d, 10, 10, 5).as(t, "the other one", b)
}

// The chapter's examples: a disk of 8, a log from 2 on, of 4, Epoch 5.

func TestExamples(t *testing.T) {
	d, _ := disk.New(8)
	l := opened(d, 2, 4, 5)
	if e := l.Append([]byte("hi")); e != api.OK {
		t.Errorf("Append(hi): %v", e)
	}
	if e := l.Append(data(60, 1)); e != api.OK {
		t.Errorf("Append(60 bytes): %v", e)
	}
	if n, left := l.Len(); n != 2 || left != 1 {
		t.Errorf("Len: %d %d", n, left)
	}
	if e := l.Append(data(60, 2)); e != api.ErrLogFull {
		t.Errorf("Append(60 bytes): %v", e)
	}
	want := [][]byte{[]byte("hi"), data(60, 1)}
	if all := listed(t, l); !alike(all, want) {
		t.Errorf("Records: %s", told(all))
	}
	if all := listed(t, opened(d, 2, 4, 5)); !alike(all, want) {
		t.Errorf("Records, opened anew: %s", told(all))
	}
	if n, left := opened(d, 2, 4, 6).Len(); n != 0 || left != 4 {
		t.Errorf("Len with the Epoch 6: %d %d", n, left)
	}
	for n, want := range map[int]int{50: 1, 51: 2, 0: 1} {
		if k, e := l.Needs(n); k != want || e != api.OK {
			t.Errorf("Needs(%d): %d %v", n, k, e)
		}
	}
}
