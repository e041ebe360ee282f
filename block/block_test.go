package block_test

import (
	"bytes"
	"encoding/binary"
	"hash/crc32"
	"math"
	"math/rand"
	"slices"
	"testing"

	"packsaddle/api"
	"packsaddle/block"
	"packsaddle/cbor"
)

func end(node, service uint32) api.Endpoint { return api.Endpoint{Node: node, Service: service} }

func up(gate uint32) api.Cross   { return api.Cross{Gate: gate, Up: true} }
func down(gate uint32) api.Cross { return api.Cross{Gate: gate} }

// out is a path on its way out, back one that goes back.
func out(l ...api.Cross) api.Path  { return api.Path{L: l} }
func back(l ...api.Cross) api.Path { return api.Path{Back: true, L: l} }

func number(n uint64) api.Item    { return api.Item{Kind: api.ItemUint, N: n} }
func text(s string) api.Item      { return api.Item{Kind: api.ItemText, S: s} }
func data(b ...byte) api.Item     { return api.Item{Kind: api.ItemBytes, B: b} }
func list(l ...api.Item) api.Item { return api.Item{Kind: api.ItemList, L: l} }
func truth(n uint64) api.Item     { return api.Item{Kind: api.ItemBool, N: n} }

// null is an item by itself.
var null = api.Item{Kind: api.ItemNull}

// source is the item of an endpoint, whether that may be or not; cross that of a crossing.
func source(node, service uint64) api.Item {
	return list(number(2), list(number(node), number(service)))
}
func cross(gate, up uint64) api.Item { return list(number(gate), truth(up)) }

// nobody is nobody's item.
func nobody() api.Item { return list(number(1), number(0)) }

// sums are the kinds that there are.
func sums() []api.SumKind { return []api.SumKind{api.SumNone, api.SumShort, api.SumLong} }

// wrongSums are such as there are not.
func wrongSums() []api.SumKind {
	return []api.SumKind{-1, 3, 4, 255, 256, 257, 1 << 16, math.MaxInt32, math.MaxInt, math.MinInt, math.MinInt + 1}
}

// kinds are the types that there are.
func kinds() []uint64 { return []uint64{1, 6, 7, 10, 200} }

// run are so many crossings, no two of them the same.
func run(n int) []api.Cross {
	var l []api.Cross
	for i := range n {
		l = append(l, api.Cross{Gate: uint32(i/2 + 1), Up: i%2 == 0})
	}
	return l
}

// letter is a payload's block.
func letter(b []byte) api.Block { return api.Block{Type: 1, Number: 1, Data: b} }

// with is a block with that sum.
func with(b api.Block, k api.SumKind) api.Block {
	b.Sum = k
	return b
}

// coded are an item's bytes, by layer 3.
func coded(x api.Item) []byte {
	b, e := cbor.Encode(x)
	if e != api.OK {
		panic(e)
	}
	return b
}

// rights are data that may be those of a type, as items and as bytes.
func rights(kind uint64) [][]byte {
	var l [][]byte
	add := func(x ...api.Item) {
		for _, y := range x {
			l = append(l, coded(y))
		}
	}
	switch kind {
	case 1:
		for _, n := range []int{0, 1, 2, 23, 24, 255, 256, 257, 5000, 65520} {
			l = append(l, bytes.Repeat([]byte{0xa5}, n))
		}
		l = append(l, nil, []byte("hi"), []byte{0xff, 0xff}, coded(number(5)), coded(nobody()))
	case 6:
		add(source(1, 0), source(3, 0), source(3, 5), source(255, 256), source(1<<32-1, 0), source(1<<32-1, 1<<32-1), source(1, 1<<32-1))
	case 7:
		add(number(0), number(1), number(5), number(23), number(24), number(255), number(256), number(65536), number(1<<32), number(api.Forever-1), number(api.Forever))
	case 10:
		for _, n := range []uint64{0, 1, 23, 24, 254, 255} {
			add(list(number(n), number(0)), list(number(9), number(n)), list(number(n), number(n)))
		}
	case 200:
		add(list(truth(0)), list(truth(1)), list(truth(0), cross(5, 1)), list(truth(1), cross(5, 1), cross(5, 0)), list(truth(0), cross(1<<32-1, 0), cross(1, 1)))
		long := []api.Item{truth(1)}
		for _, x := range run(64) {
			n := uint64(0)
			if x.Up {
				n = 1
			}
			long = append(long, cross(uint64(x.Gate), n))
		}
		add(list(long...))
	}
	return l
}

// wrongs are data that may not be those of a type.
func wrongs(kind uint64) [][]byte {
	l := [][]byte{
		// No item, more than one, or not in its one form.
		nil, {}, {0xff}, {0x18}, {0x18, 0x17}, {0x81}, {0x82}, {0x82, 0}, {0, 0}, {0x80, 0x80}, {0x82, 0, 0, 0}, {0x1b, 0, 0, 0, 0, 0, 0, 0, 5}, {0x82, 0x18, 5, 0}, {0x81, 0xf4, 0}, {0x82, 2, 0x82, 0x18, 3, 0}, {0x20}, {0xc0, 0}, {0x9f, 0xff}, {0x62, 0xff, 0xff},
		[]byte("\x81\x81\x81\x81\x81\x81\x81\x81\x00"), []byte("\x81\x81\x81\x81\x81\x81\x81\x00"),
		make([]byte, 1<<16), make([]byte, 1<<16+1), make([]byte, 1<<20),
	}
	for _, x := range []api.Item{null, truth(0), truth(1), data(), data(7), data(0x82, 1, 0), text(""), text("7"), text("ipn:3.5"), list(), list(null), list(number(7)), list(number(1), null), list(null, number(0)), list(number(1), number(2), number(3)), list(list(number(1), number(0))), list(list(truth(0))), number(1 << 62), number(1 << 63), number(math.MaxUint64), list(number(5), text("a"))} {
		l = append(l, coded(x))
	}
	var more []api.Item
	switch kind {
	case 6:
		more = []api.Item{nobody(), list(number(1), number(1)), source(0, 0), source(0, 1), source(1<<32, 0), source(1<<32+1, 0), source(1, 1<<32), list(number(3), list(number(3), number(0))), list(number(2), list(number(3))), list(number(2), list(number(3), number(0), number(0))), list(number(2), number(3)), list(number(2), list(number(3), number(0)), number(0)), list(number(3), number(0)), number(3)}
	case 7:
		more = []api.Item{list(number(5)), list(number(5), number(5)), data(5), text("5")}
	case 10:
		more = []api.Item{list(number(256), number(0)), list(number(0), number(256)), list(number(257), number(1)), list(number(1), number(257)), list(number(1<<32), number(1)), list(number(1), number(math.MaxUint64)), list(number(1)), list(number(1), number(1), number(1)), list(truth(1), truth(1)), list(number(1), truth(1)), list(truth(0), number(1)), list(list(number(1), number(1))), list(number(1), list(number(1))), list(data(1), number(1)), number(5)}
	case 200:
		more = []api.Item{list(number(0)), list(cross(5, 1)), list(truth(0), cross(0, 1)), list(truth(0), cross(5, 1), cross(5, 1)), list(truth(0), cross(1<<32, 1)), list(truth(0), list(number(5))), list(truth(0), list(truth(1), number(5))), list(truth(0), number(5)), list(truth(0), truth(0)), list(truth(0), list(number(5), truth(1), truth(1))), list(number(5), truth(1))}
		long := []api.Item{truth(0)}
		for i := range uint64(65) {
			long = append(long, cross(i+1, 0))
		}
		more = append(more, list(long...))
	}
	for _, x := range more {
		l = append(l, coded(x))
	}
	return l
}

// samples are blocks that may be: of each type, with each sum.
func samples() []api.Block {
	var l []api.Block
	for _, kind := range kinds() {
		numbers := []uint64{1}
		if kind != 1 {
			numbers = []uint64{2, 3, 5, 23, 24, 200, 254, 255}
		}
		for i, b := range rights(kind) {
			for _, k := range sums() {
				l = append(l, api.Block{Type: kind, Number: numbers[(i+int(k))%len(numbers)], Sum: k, Data: b})
			}
		}
		for _, n := range numbers {
			l = append(l, api.Block{Type: kind, Number: n, Data: rights(kind)[0]})
		}
	}
	return l
}

// no is a block that may not be, and by which part of it.
type no struct {
	part string
	b    api.Block
}

// noes are blocks with one part that may not be.
func noes() []no {
	var l []no
	for _, kind := range kinds() {
		was := api.Block{Type: kind, Number: 2, Data: rights(kind)[1]}
		if kind == 1 {
			was.Number = 1
		}
		but := func(part string, change func(*api.Block)) {
			for _, k := range sums() {
				b := with(was, k)
				change(&b)
				l = append(l, no{part, b})
			}
		}
		for _, other := range []uint64{0, 2, 3, 4, 5, 8, 9, 11, 12, 100, 192, 199, 201, 255, 256 + 1, 256 + 6, 256 + 7, 256 + 10, 1<<32 + 1, 1<<32 + 7, 1<<63 + 200, math.MaxUint64} {
			for _, n := range []uint64{1, 2} {
				but("type", func(b *api.Block) { b.Type, b.Number = other, n })
			}
		}
		for _, n := range []uint64{0, 256, 257, 258, 511, 512, 1 << 16, 1<<32 + 1, 1<<32 + 2, 1 << 63, math.MaxUint64} {
			but("number", func(b *api.Block) { b.Number = n })
		}
		if kind == 1 {
			for _, n := range []uint64{2, 3, 24, 255} {
				but("number", func(b *api.Block) { b.Number = n })
			}
			continue
		}
		but("number", func(b *api.Block) { b.Number = 1 })
		for _, b := range wrongs(kind) {
			but("data", func(x *api.Block) { x.Data = b })
		}
		// Those of another type.
		for _, other := range []uint64{6, 7, 10, 200} {
			if other != kind {
				but("data", func(x *api.Block) { x.Data = rights(other)[0] })
			}
		}
		// Cut, and with more behind.
		for _, b := range rights(kind) {
			but("data", func(x *api.Block) { x.Data = b[:len(b)-1] })
			but("data", func(x *api.Block) { x.Data = append(slices.Clone(b), 0) })
		}
	}
	return l
}

// wrongSummed are blocks that may be but for their sum.
func wrongSummed() []api.Block {
	var l []api.Block
	for _, b := range samples() {
		if b.Sum == api.SumNone {
			l = append(l, with(b, wrongSums()[len(l)%len(wrongSums())]))
		}
	}
	return l
}

// room is how many bytes a payload has at most, with that sum.
func room(k api.SumKind) int { return []int{65529, 65526, 65524}[k] }

// head is that of a major and a number, by another road.
func head(major byte, n uint64) []byte {
	long := binary.BigEndian.AppendUint64(nil, n)
	switch {
	case n < 24:
		return []byte{major<<5 | byte(n)}
	case n < 1<<8:
		return append([]byte{major<<5 | 24}, long[7:]...)
	case n < 1<<16:
		return append([]byte{major<<5 | 25}, long[6:]...)
	case n < 1<<32:
		return append([]byte{major<<5 | 26}, long[4:]...)
	}
	return append([]byte{major<<5 | 27}, long...)
}

// short is the short sum, bit by bit as the document tells it.
func short(b []byte) uint16 {
	w := uint16(0xffff)
	for _, x := range b {
		for i := range 8 {
			unlike := (uint16(x>>i)^w)&1 == 1
			if w >>= 1; unlike {
				w ^= 0x8408
			}
		}
	}
	return ^w
}

// summed puts the right sum upon the last bytes of a block's.
func summed(k api.SumKind, b []byte) []byte {
	b = slices.Clone(b)
	switch {
	case k == api.SumShort && len(b) >= 2:
		last := b[len(b)-2:]
		clear(last)
		binary.BigEndian.PutUint16(last, short(b))
	case k == api.SumLong && len(b) >= 4:
		last := b[len(b)-4:]
		clear(last)
		binary.BigEndian.PutUint32(last, crc32.Checksum(b, crc32.MakeTable(crc32.Castagnoli)))
	}
	return b
}

// laid is a block's bytes, by another road. It lays such as may not be, too.
func laid(x api.Block) []byte {
	b := slices.Concat([]byte{0x84}, head(0, x.Type), head(0, x.Number), head(0, uint64(x.Sum)), head(2, uint64(len(x.Data))), x.Data)
	switch x.Sum {
	case api.SumShort:
		b = append(b, 0x42, 0, 0)
	case api.SumLong:
		b = append(b, 0x44, 0, 0, 0, 0)
	default:
		return b
	}
	b[0] = 0x85
	return summed(x.Sum, b)
}

// alike tells whether two blocks are, by another road. nil and empty mean the same.
func alike(a, b api.Block) bool {
	return a.Type == b.Type && a.Number == b.Number && a.Sum == b.Sum && string(a.Data) == string(b.Data)
}

// brief is a block, and few are the first of several, that don't fill the page.
func brief(b api.Block) api.Block {
	b.Data = b.Data[:min(len(b.Data), 60)]
	return b
}

func few(l []api.Block) []api.Block {
	l = slices.Clone(l[:min(len(l), 8)])
	for i := range l {
		l[i] = brief(l[i])
	}
	return l
}

// none is the block that stands beside an error.
func none(b api.Block) bool { return alike(b, api.Block{}) }

// anyBlocks are so many that may be.
func anyBlocks(n int) []api.Block {
	chance := rand.New(rand.NewSource(8))
	l := make([]api.Block, n)
	for i := range l {
		kind := kinds()[chance.Intn(5)]
		l[i] = api.Block{Type: kind, Number: 2 + uint64(chance.Intn(254)), Sum: api.SumKind(chance.Intn(3))}
		right := rights(kind)
		l[i].Data = right[chance.Intn(len(right))]
		if kind == 1 {
			l[i].Number, l[i].Data = 1, make([]byte, chance.Intn(1<<chance.Intn(10)))
			chance.Read(l[i].Data)
		}
	}
	return l
}

// P8.1

func TestCheck(t *testing.T) {
	for _, b := range append(samples(), anyBlocks(1000)...) {
		if e := block.Check(b); e != api.OK {
			t.Errorf("Check(%v): %v", brief(b), e)
		}
	}
	for _, x := range noes() {
		if e := block.Check(x.b); e != api.ErrArg {
			t.Errorf("%s: Check(%v): %v", x.part, brief(x.b), e)
		}
	}
	for _, b := range wrongSummed() {
		if e := block.Check(b); e != api.ErrArg {
			t.Errorf("Check(%v): %v", brief(b), e)
		}
	}
	for _, b := range []api.Block{{}, {Type: 1, Number: 2}, {Type: 2}, {Type: 2, Number: 2}, {Type: 2, Number: 1}, {Number: 1}} {
		if e := block.Check(b); e != api.ErrArg {
			t.Errorf("Check(%v): %v", b, e)
		}
	}
}

func TestCheckOfEachTypeAndNumber(t *testing.T) {
	for kind := range uint64(300) {
		for n := range uint64(300) {
			b, want := api.Block{Type: kind, Number: n}, api.ErrArg
			if slices.Contains(kinds(), kind) {
				b.Data = rights(kind)[0]
				if n >= 2 && n <= 255 && kind != 1 || n == 1 && kind == 1 {
					want = api.OK
				}
			}
			if e := block.Check(b); e != want {
				t.Errorf("Check of type %d, number %d: %v", kind, n, e)
			}
		}
	}
}

func TestEncode(t *testing.T) {
	for _, c := range []struct {
		b    api.Block
		want string
	}{
		{letter([]byte("hi")), "\x84\x01\x01\x00\x42hi"},
		{letter(nil), "\x84\x01\x01\x00\x40"},
		{letter([]byte{}), "\x84\x01\x01\x00\x40"},
		{api.Block{Type: 6, Number: 2, Data: []byte("\x82\x02\x82\x03\x00")}, "\x84\x06\x02\x00\x45\x82\x02\x82\x03\x00"},
		{api.Block{Type: 7, Number: 24, Data: []byte{5}}, "\x84\x07\x18\x18\x00\x41\x05"},
		{api.Block{Type: 10, Number: 255, Data: []byte("\x82\x09\x18\xff")}, "\x84\x0a\x18\xff\x00\x44\x82\x09\x18\xff"},
		{api.Block{Type: 200, Number: 5, Data: []byte("\x81\xf4")}, "\x84\x18\xc8\x05\x00\x42\x81\xf4"},
	} {
		if b, e := block.Encode(c.b); string(b) != c.want || e != api.OK {
			t.Errorf("Encode(%v): % x %v, not % x", c.b, b, e, c.want)
		}
	}
	for _, x := range append(samples(), anyBlocks(2000)...) {
		if b, e := block.Encode(x); !bytes.Equal(b, laid(x)) || e != api.OK {
			t.Errorf("Encode(%v): % .200x %v, not % .200x", brief(x), b, e, laid(x))
		}
	}
	for _, x := range noes() {
		if b, e := block.Encode(x.b); b != nil || e != api.ErrArg {
			t.Errorf("%s: Encode(%v): % .200x %v", x.part, brief(x.b), b, e)
		}
	}
	for _, x := range wrongSummed() {
		if b, e := block.Encode(x); b != nil || e != api.ErrArg {
			t.Errorf("Encode(%v): % .200x %v", brief(x), b, e)
		}
	}
}

func TestLongBlocks(t *testing.T) {
	for _, k := range sums() {
		x := with(letter(make([]byte, room(k))), k)
		b, e := block.Encode(x)
		if f := block.Check(x); len(b) != api.MaxText || !bytes.Equal(b, laid(x)) || e != api.OK || f != api.OK {
			t.Errorf("sum %d: Encode of %d bytes: %d %v, Check %v", k, room(k), len(b), e, f)
		}
		if y, e := block.Decode(b); !alike(y, x) || e != api.OK {
			t.Errorf("sum %d: Decode of %d bytes: %v", k, len(b), e)
		}
		for _, n := range []int{room(k) + 1, room(k) + 2, room(k) + 7, 1 << 16, 1<<16 + 1, 1 << 20, 1 << 24} {
			x := with(letter(make([]byte, n)), k)
			b, e := block.Encode(x)
			if f := block.Check(x); b != nil || e != api.ErrLong || f != api.ErrLong {
				t.Errorf("sum %d: Encode of %d bytes: %d %v, Check %v", k, n, len(b), e, f)
			}
			if n < 1<<20 {
				unread(t, laid(x), api.ErrLong)
			}
			// What may not be counts ahead of what is long.
			for _, y := range []api.Block{{Type: 1, Number: 2, Sum: k, Data: x.Data}, {Type: 2, Number: 1, Sum: k, Data: x.Data}, {Type: 1, Number: 1, Sum: k + 3, Data: x.Data}, {Type: 7, Number: 2, Sum: k, Data: x.Data}} {
				b, e := block.Encode(y)
				if f := block.Check(y); b != nil || e != api.ErrArg || f != api.ErrArg {
					t.Errorf("type %d, number %d, sum %d: Encode of %d bytes: %d %v, Check %v", y.Type, y.Number, y.Sum, n, len(b), e, f)
				}
			}
		}
	}
}

// unread holds Decode against the error that it is to have.
func unread(t *testing.T, b []byte, want api.Errno) {
	t.Helper()
	if x, e := block.Decode(b); !none(x) || e != want {
		t.Errorf("Decode(% .100x): %v %v, not %v", b, brief(x), e, want)
	}
}

func TestDecode(t *testing.T) {
	for _, x := range append(samples(), anyBlocks(2000)...) {
		if y, e := block.Decode(laid(x)); !alike(x, y) || e != api.OK {
			t.Errorf("Decode(% .200x): %v %v, not %v", laid(x), brief(y), e, brief(x))
		}
	}
}

func TestDecodeRefusesAsLayer3(t *testing.T) {
	for _, x := range append(samples(), anyBlocks(200)...) {
		b := laid(x)
		if len(b) > 1000 {
			continue
		}
		// Too few, too many.
		for i := range b {
			unread(t, b[:i], api.ErrCbor)
		}
		unread(t, append(slices.Clone(b), 0), api.ErrCbor)
		unread(t, append(slices.Clone(b), b...), api.ErrCbor)
		unread(t, append([]byte{0}, b...), api.ErrCbor)
	}
	for _, c := range []struct {
		s    string
		want api.Errno
	}{
		{"", api.ErrCbor}, {"\xff", api.ErrCbor}, {"\x84", api.ErrCbor}, {"\x18\x17", api.ErrCbor},
		// A head that is too wide.
		{"\x84\x18\x01\x01\x00\x42hi", api.ErrCbor}, {"\x84\x01\x18\x01\x00\x42hi", api.ErrCbor}, {"\x84\x01\x01\x18\x00\x42hi", api.ErrCbor}, {"\x84\x01\x01\x00\x58\x02hi", api.ErrCbor}, {"\x98\x04\x01\x01\x00\x42hi", api.ErrCbor}, {"\x9f\x01\x01\x00\x42hi\xff", api.ErrCbor}, {"\x84\x01\x01\x00\x5f\x42hi\xff", api.ErrCbor},
		{"\x81\x81\x81\x81\x81\x81\x81\x81\x00", api.ErrDeep}, {"\x84\x01\x01\x00\x81\x81\x81\x81\x81\x81\x81\x81\x07", api.ErrDeep}, {"\x85\x01\x01\x01\x42hi\x81\x81\x81\x81\x81\x81\x81\x81\x07", api.ErrDeep},
		// What is found first counts, and ahead of what is no block's.
		{"\x82\x81\x81\x81\x81\x81\x81\x81\x81\x00\xff", api.ErrDeep}, {"\x82\xff\x81\x81\x81\x81\x81\x81\x81\x81\x00", api.ErrCbor}, {"\x84\x02\x01\x00\x42h", api.ErrCbor}, {"\x80\x00", api.ErrCbor},
	} {
		unread(t, []byte(c.s), c.want)
	}
	for _, n := range []int{api.MaxText + 1, 1 << 20} {
		unread(t, make([]byte, n), api.ErrLong)
		unread(t, append(laid(letter([]byte("hi"))), make([]byte, n)...), api.ErrLong)
	}
	unread(t, make([]byte, api.MaxText), api.ErrCbor)
}

// items are a payload's, with one at a place that is another one.
func items(at int, x api.Item) []api.Item {
	l := []api.Item{number(1), number(1), number(0), data('h', 'i')}
	if at < len(l) {
		l[at] = x
		return l
	}
	return append(l, x)
}

func TestDecodeRefusesOtherItems(t *testing.T) {
	strange := []api.Item{null, truth(0), truth(1), text(""), text("hi"), list(), list(number(1)), list(data('h', 'i')), list(list(items(0, number(1))...)), number(3), number(math.MaxUint64)}
	for _, x := range append(strange, number(0), number(1), data(), data('h', 'i'), data(laid(letter(nil))...)) {
		unread(t, coded(x), api.ErrBlock)
	}
	if b, e := block.Decode(coded(list(items(0, number(1))...))); !alike(b, letter([]byte("hi"))) || e != api.OK {
		t.Fatalf("the example: %v %v", b, e)
	}
	for at := range 5 {
		for _, x := range strange {
			unread(t, coded(list(items(at, x)...)), api.ErrBlock)
		}
	}
	for at := range 3 {
		unread(t, coded(list(items(at, data(1))...)), api.ErrBlock)
		unread(t, coded(list(items(at, data())...)), api.ErrBlock)
	}
	for _, x := range []api.Item{number(0), number(1), number(2)} {
		unread(t, coded(list(items(3, x)...)), api.ErrBlock)
	}
	// Behind a block that has no sum, there is nothing.
	for _, x := range []api.Item{data(), data(0), data(0, 0), data(0, 0, 0, 0), number(0)} {
		unread(t, coded(list(items(4, x)...)), api.ErrBlock)
	}
	for n := range 4 {
		unread(t, coded(list(items(0, number(1))[:n]...)), api.ErrBlock)
	}
	unread(t, coded(list(append(items(4, data()), data())...)), api.ErrBlock)
}

func TestDecodeRefusesOtherParts(t *testing.T) {
	// With a sum, it is the right one.
	for _, x := range noes() {
		if b := laid(x.b); len(b) <= api.MaxText {
			unread(t, b, api.ErrBlock)
		} else {
			unread(t, b, api.ErrLong)
		}
	}
	for _, n := range []uint64{3, 4, 24, 255, 256, 257, 1 << 32, 1<<32 + 1, 1<<32 + 2, 1 << 63, 1<<63 + 1, math.MaxUint64} {
		unread(t, coded(list(items(2, number(n))...)), api.ErrBlock)
		for _, s := range [][]byte{nil, {0, 0}, {0, 0, 0, 0}, make([]byte, 8)} {
			unread(t, coded(list(append(items(2, number(n)), data(s...))...)), api.ErrBlock)
		}
	}
	for _, x := range noes() {
		// What is none's counts ahead of a sum that is another one.
		if b := laid(x.b); x.b.Sum != api.SumNone && len(b) <= api.MaxText {
			b[len(b)-1] ^= 1
			unread(t, b, api.ErrBlock)
		}
	}
}

func TestDecodeRefusesOtherSums(t *testing.T) {
	for _, x := range append(samples(), anyBlocks(300)...) {
		if x.Sum == api.SumNone {
			continue
		}
		b, width := laid(x), 2*int(x.Sum)
		for i := range width {
			for _, y := range []byte{1, 0x80, 0xff} {
				c := slices.Clone(b)
				c[len(c)-1-i] ^= y
				unread(t, c, api.ErrSum)
			}
		}
		// Its noughts are none, but by chance.
		c := slices.Clone(b)
		clear(c[len(c)-width:])
		if !bytes.Equal(c, b) {
			unread(t, c, api.ErrSum)
		}
		// The right sum of other bytes is another one's.
		if x.Type == 1 && len(x.Data) > 0 {
			c := slices.Clone(b)
			c[len(c)-width-2] ^= 1
			unread(t, c, api.ErrSum)
		}
	}
}

func TestDecodeRefusesSumsOfOtherSorts(t *testing.T) {
	for _, k := range []api.SumKind{api.SumShort, api.SumLong} {
		x := with(letter([]byte("hi")), k)
		b := laid(x)
		right := b[len(b)-2*int(k):]
		behind := func(l ...api.Item) []byte {
			return coded(list(append(items(2, number(uint64(k))), l...)...))
		}
		if y, e := block.Decode(behind(data(right...))); !alike(x, y) || e != api.OK {
			t.Fatalf("sum %d: %v %v", k, y, e)
		}
		// No bytes, none at all, more than these.
		for _, l := range [][]api.Item{nil, {number(0)}, {text("ab")}, {text("abcd")}, {list(data(right...))}, {null}, {truth(0)}, {data(right...), data(right...)}, {data(right...), number(0)}, {data(right...), null}} {
			unread(t, behind(l...), api.ErrBlock)
		}
		// Others, of whatever length.
		for _, y := range [][]byte{nil, {0}, right[:1], right[:len(right)-1], append(slices.Clone(right), 0), append([]byte{0}, right...), slices.Repeat(right, 2), make([]byte, 1000)} {
			unread(t, behind(data(y...)), api.ErrSum)
		}
		// Of so many data that there is no room for the right one.
		long := items(2, number(uint64(k)))
		long[3] = data(make([]byte, room(k)+1)...)
		unread(t, coded(list(append(long, data())...)), api.ErrSum)
	}
}

// P8.2

// extras are such as may be: each part at its ends, and others.
func extras() []api.Extra {
	l := []api.Extra{{}, {Before: end(3, 0), Age: 5, Limit: 9, Count: 1}, {Before: end(1<<32-1, 1<<32-1), Age: api.Forever, Limit: 255, Count: 255, Path: back(run(64)...)}}
	for _, x := range []api.Endpoint{end(1, 0), end(1, 1), end(24, 256), end(1<<32-1, 0), end(1, 1<<32-1)} {
		l = append(l, api.Extra{Before: x}, api.Extra{Before: x, Age: 77, Limit: 3, Count: 2, Path: out(up(5), down(5))})
	}
	for _, n := range []uint64{1, 23, 24, 255, 256, 1 << 32, api.Forever - 1, api.Forever} {
		l = append(l, api.Extra{Age: n}, api.Extra{Before: end(4, 0), Age: n})
	}
	for _, n := range []uint8{1, 9, 23, 24, 127, 128, 254, 255} {
		// More may have been than the limit says.
		l = append(l, api.Extra{Limit: n}, api.Extra{Count: n}, api.Extra{Before: end(4, 0), Limit: n, Count: n}, api.Extra{Limit: n, Count: 255 - n})
	}
	for _, p := range []api.Path{back(), {L: []api.Cross{}}, out(up(5)), back(down(1<<32 - 1)), out(up(5), down(5), up(1)), back(run(63)...), out(run(64)...)} {
		l = append(l, api.Extra{Path: p}, api.Extra{Before: end(4, 0), Path: p})
	}
	return l
}

// wrongExtras are such as may not be.
func wrongExtras() []api.Extra {
	var l []api.Extra
	for _, x := range []api.Extra{{}, {Before: end(3, 0), Age: 5, Limit: 9, Count: 1, Path: back(up(5))}} {
		but := func(change func(*api.Extra)) {
			y := x
			change(&y)
			l = append(l, y)
		}
		for _, service := range []uint32{1, 5, 1<<32 - 1} {
			but(func(y *api.Extra) { y.Before = end(0, service) })
		}
		for _, n := range []uint64{api.Forever + 1, 1 << 63, math.MaxUint64} {
			but(func(y *api.Extra) { y.Age = n })
		}
		for _, p := range []api.Path{out(up(0)), back(down(0)), out(up(5), up(5)), out(run(65)...), back(run(1000)...)} {
			but(func(y *api.Extra) { y.Path = p })
		}
	}
	return l
}

// wanted are the blocks of an extra, by another road.
func wanted(x api.Extra, k api.SumKind) []api.Block {
	var l []api.Block
	if x.Before.Node > 0 {
		l = append(l, api.Block{Type: 6, Data: slices.Concat([]byte{0x82, 2, 0x82}, head(0, uint64(x.Before.Node)), head(0, uint64(x.Before.Service)))})
	}
	hops := slices.Concat([]byte{0x82}, head(0, uint64(x.Limit)), head(0, uint64(x.Count)))
	path := head(4, uint64(1+len(x.Path.L)))
	say := func(is bool) {
		if is {
			path = append(path, 0xf5)
		} else {
			path = append(path, 0xf4)
		}
	}
	say(x.Path.Back)
	for _, c := range x.Path.L {
		path = slices.Concat(path, []byte{0x82}, head(0, uint64(c.Gate)))
		say(c.Up)
	}
	l = append(l, api.Block{Type: 7, Data: head(0, x.Age)}, api.Block{Type: 10, Data: hops}, api.Block{Type: 200, Data: path})
	for i := range l {
		l[i].Number, l[i].Sum = uint64(2+i), k
	}
	return l
}

// alikeExtra tells whether two extras are, by another road.
func alikeExtra(a, b api.Extra) bool {
	return a.Before == b.Before && a.Age == b.Age && a.Limit == b.Limit && a.Count == b.Count && a.Path.Back == b.Path.Back && slices.Equal(a.Path.L, b.Path.L)
}

// anyExtras are so many that may be.
func anyExtras(n int) []api.Extra {
	chance := rand.New(rand.NewSource(9))
	l := make([]api.Extra, n)
	for i := range l {
		l[i] = api.Extra{Age: chance.Uint64() >> (2 + chance.Intn(62)), Limit: uint8(chance.Intn(256)), Count: uint8(chance.Intn(256)), Path: api.Path{Back: chance.Intn(2) == 0}}
		if chance.Intn(2) == 0 {
			l[i].Before = end(max(1, chance.Uint32()>>chance.Intn(32)), chance.Uint32()>>chance.Intn(32))
		}
		for range chance.Intn(10) {
			x := api.Cross{Gate: max(1, chance.Uint32()>>chance.Intn(32)), Up: chance.Intn(2) == 0}
			if !slices.Contains(l[i].Path.L, x) {
				l[i].Path.L = append(l[i].Path.L, x)
			}
		}
	}
	return l
}

func TestExtras(t *testing.T) {
	for _, x := range append(extras(), anyExtras(1000)...) {
		for _, k := range sums() {
			l, e := block.Extras(x, k)
			if !slices.EqualFunc(l, wanted(x, k), alike) || e != api.OK {
				t.Errorf("Extras(%v, %d): %v %v, not %v", x, k, l, e, wanted(x, k))
			}
			for _, b := range l {
				if e := block.Check(b); e != api.OK {
					t.Errorf("of Extras(%v, %d): %v %v", x, k, b, e)
				}
			}
		}
		for _, k := range wrongSums() {
			if l, e := block.Extras(x, k); l != nil || e != api.ErrArg {
				t.Errorf("Extras(%v, %d): %v %v", x, k, l, e)
			}
		}
	}
	for _, x := range wrongExtras() {
		for _, k := range append(sums(), wrongSums()...) {
			if l, e := block.Extras(x, k); l != nil || e != api.ErrArg {
				t.Errorf("Extras(%v, %d): %v %v", x, k, l, e)
			}
		}
	}
}

// ungathered holds Of against the error that it is to have.
func ungathered(t *testing.T, l ...api.Block) {
	t.Helper()
	if x, e := block.Of(l...); !alikeExtra(x, api.Extra{}) || e != api.ErrBlocks {
		t.Errorf("Of(%v): %v %v", few(l), x, e)
	}
}

func TestOf(t *testing.T) {
	for _, x := range append(extras(), anyExtras(1000)...) {
		for _, k := range sums() {
			if y, e := block.Of(wanted(x, k)...); !alikeExtra(x, y) || e != api.OK {
				t.Errorf("Of(%v): %v %v, not %v", wanted(x, k), y, e, x)
			}
		}
	}
	// Each with any sum, unlike the others' or not.
	x := extras()[1]
	l := wanted(x, api.SumNone)
	for n := range 3 * 3 * 3 * 3 {
		for i := range l {
			l[i].Sum = api.SumKind(n % 3)
			n /= 3
		}
		if y, e := block.Of(l...); !alikeExtra(x, y) || e != api.OK {
			t.Errorf("Of(%v): %v %v", l, y, e)
		}
	}
}

// numbered are blocks, numbered from 2 on.
func numbered(l ...api.Block) []api.Block {
	l = slices.Clone(l)
	for i := range l {
		l[i].Number = uint64(2 + i)
	}
	return l
}

func TestOfRefusesOtherBlocks(t *testing.T) {
	ungathered(t)
	ungathered(t, []api.Block{}...)
	for _, x := range extras()[:3] {
		l := wanted(x, api.SumShort)
		want := len(l)
		// Fewer, or more, whatever their numbers are.
		for i, b := range l {
			if b.Type != api.BlockBefore {
				ungathered(t, slices.Delete(slices.Clone(l), i, i+1)...)
				ungathered(t, numbered(slices.Delete(slices.Clone(l), i, i+1)...)...)
			} else {
				ungathered(t, l[1:]...)
			}
			ungathered(t, b)
			for at := range want + 1 {
				more := slices.Insert(slices.Clone(l), at, b)
				ungathered(t, more...)
				ungathered(t, numbered(more...)...)
			}
		}
		// A payload, wherever it stands.
		for at := range want + 1 {
			ungathered(t, slices.Insert(slices.Clone(l), at, letter([]byte("hi")))...)
			ungathered(t, slices.Insert(slices.Clone(l), at, letter([]byte{0}))...)
		}
		ungathered(t, append(slices.Clone(l), l...)...)
		ungathered(t, append(slices.Clone(l), api.Block{})...)
	}
	ungathered(t, letter([]byte("hi")))
	ungathered(t, make([]api.Block, 3)...)
	ungathered(t, make([]api.Block, 4)...)
	ungathered(t, make([]api.Block, 1<<16)...)
	ungathered(t, slices.Repeat([]api.Block{letter(nil)}, 1<<16)...)
	ungathered(t, slices.Repeat(wanted(api.Extra{}, 0), 1000)...)
}

func TestOfRefusesOtherOrders(t *testing.T) {
	// Of all orders of four, or of three, one is right.
	for _, x := range []api.Extra{extras()[0], extras()[1]} {
		l := wanted(x, api.SumLong)
		right := 0
		for n := range 4 * 4 * 4 * 4 {
			var other []api.Block
			for range l {
				other = append(other, l[n%4%len(l)])
				n /= 4
			}
			for _, y := range [][]api.Block{other, numbered(other...)} {
				if slices.EqualFunc(y, l, alike) {
					right++
					if z, e := block.Of(y...); !alikeExtra(x, z) || e != api.OK {
						t.Errorf("Of(%v): %v %v", y, z, e)
					}
					continue
				}
				ungathered(t, y...)
			}
		}
		if right == 0 {
			t.Errorf("no right order of %v", l)
		}
	}
}

func TestOfRefusesOtherParts(t *testing.T) {
	for _, x := range []api.Extra{extras()[0], extras()[1], extras()[2]} {
		was := wanted(x, api.SumNone)
		for i := range was {
			but := func(change func(*api.Block)) {
				l := slices.Clone(was)
				change(&l[i])
				ungathered(t, l...)
			}
			for _, n := range []uint64{0, 1, uint64(1 + i), uint64(3 + i), 255, 256, uint64(258 + i), math.MaxUint64} {
				but(func(b *api.Block) { b.Number = n })
			}
			for _, kind := range []uint64{0, 1, 2, 6, 7, 10, 200, 256 + was[i].Type, 1<<32 + was[i].Type} {
				if kind != was[i].Type {
					but(func(b *api.Block) { b.Type = kind })
				}
			}
			for _, k := range wrongSums() {
				but(func(b *api.Block) { b.Sum = k })
			}
			for _, data := range wrongs(was[i].Type) {
				but(func(b *api.Block) { b.Data = data })
			}
		}
		// All numbered from another number on.
		for _, from := range []uint64{0, 1, 3, 100, 252, math.MaxUint64} {
			l := slices.Clone(was)
			for j := range l {
				l[j].Number = from + uint64(j)
			}
			ungathered(t, l...)
		}
	}
}

// P8.3

// sort is a type, and how many blocks of it there are.
type sort struct {
	kind uint64
	n    int
}

// sorts are those that Types goes over, up to so many.
func sorts(most int, l ...api.Block) []sort {
	var all []sort
	for kind, n := range block.Types(l...) {
		if all = append(all, sort{kind, n}); len(all) == most {
			break
		}
	}
	return all
}

// typed are blocks of those types.
func typed(l ...uint64) []api.Block {
	var all []api.Block
	for _, kind := range l {
		all = append(all, api.Block{Type: kind})
	}
	return all
}

func TestTypes(t *testing.T) {
	for _, c := range []struct {
		l    []uint64
		want []sort
	}{
		{nil, nil}, {[]uint64{7}, []sort{{7, 1}}}, {[]uint64{6, 7, 10, 200}, []sort{{6, 1}, {7, 1}, {10, 1}, {200, 1}}}, {[]uint64{200, 10, 7, 6, 1}, []sort{{200, 1}, {10, 1}, {7, 1}, {6, 1}, {1, 1}}}, {[]uint64{7, 7, 7}, []sort{{7, 3}}}, {[]uint64{10, 1, 10, 7, 1, 10}, []sort{{10, 3}, {1, 2}, {7, 1}}},
		// Such as may not be.
		{[]uint64{0}, []sort{{0, 1}}}, {[]uint64{math.MaxUint64, 2, 0, 2, 257, 1, 0, 0}, []sort{{math.MaxUint64, 1}, {2, 2}, {0, 3}, {257, 1}, {1, 1}}},
	} {
		if l := sorts(-1, typed(c.l...)...); !slices.Equal(l, c.want) {
			t.Errorf("Types(%v): %v, not %v", c.l, l, c.want)
		}
	}
	l, _ := block.Extras(extras()[1], api.SumNone)
	if l := sorts(-1, l...); !slices.Equal(l, []sort{{6, 1}, {7, 1}, {10, 1}, {200, 1}}) {
		t.Errorf("Types of the example: %v", l)
	}
	if l := sorts(-1, wanted(api.Extra{}, 0)...); !slices.Equal(l, []sort{{7, 1}, {10, 1}, {200, 1}}) {
		t.Errorf("Types of none: %v", l)
	}
}

func TestTypesOfMany(t *testing.T) {
	chance := rand.New(rand.NewSource(10))
	for range 300 {
		var kinds []uint64
		var want []sort
		for range chance.Intn(100) {
			kind := uint64(chance.Intn(20))
			kinds = append(kinds, kind)
			at := slices.IndexFunc(want, func(x sort) bool { return x.kind == kind })
			if at < 0 {
				want, at = append(want, sort{kind: kind}), len(want)
			}
			want[at].n++
		}
		if l := sorts(-1, typed(kinds...)...); !slices.Equal(l, want) {
			t.Errorf("Types(%v): %v, not %v", kinds, l, want)
		}
	}
	var all []uint64
	for i := range uint64(1 << 16) {
		all = append(all, i, 0)
	}
	l := sorts(-1, typed(all...)...)
	if len(l) != 1<<16 || l[0] != (sort{0, 1<<16 + 1}) || l[5] != (sort{5, 1}) {
		t.Errorf("Types of many: %d, %v", len(l), l[:min(len(l), 6)])
	}
}

func TestTypesIsLeftAndGoneOverAgain(t *testing.T) {
	l := typed(10, 1, 10, 7)
	want := []sort{{10, 2}, {1, 1}, {7, 1}}
	all := block.Types(l...)
	// What it goes over is as it was.
	l[0].Type, l[1].Type = 200, 200
	for most := 1; most <= 3; most++ {
		var got []sort
		for kind, n := range all {
			if got = append(got, sort{kind, n}); len(got) == most {
				break
			}
		}
		if !slices.Equal(got, want[:most]) {
			t.Errorf("left behind %d: %v", most, got)
		}
	}
	// One goes over it while another one does.
	i := 0
	for kind, n := range all {
		var got []sort
		for kind, n := range all {
			got = append(got, sort{kind, n})
		}
		if (sort{kind, n}) != want[i] || !slices.Equal(got, want) {
			t.Errorf("within another, at %d: %v", kind, got)
		}
		i++
	}
	if i != 3 {
		t.Errorf("gone over %d", i)
	}
}

func TestSame(t *testing.T) {
	for _, c := range []struct {
		a, b api.Block
		want bool
	}{
		{api.Block{}, api.Block{}, true}, {letter(nil), letter([]byte{}), true}, {letter([]byte("hi")), letter([]byte("hi")), true}, {letter([]byte("hi")), letter([]byte("hj")), false}, {letter([]byte("hi")), letter([]byte("h")), false}, {letter([]byte("hi")), letter(nil), false}, {letter([]byte("hi")), letter([]byte("ih")), false},
		{letter(nil), with(letter(nil), api.SumShort), false}, {letter(nil), api.Block{Type: 1}, false}, {letter(nil), api.Block{Number: 1}, false},
		// Such as may not be.
		{api.Block{Type: 1 << 40, Number: 1 << 50, Sum: -5}, api.Block{Type: 1 << 40, Number: 1 << 50, Sum: -5}, true}, {api.Block{Type: 1 << 40}, api.Block{Type: 1 << 41}, false}, {api.Block{Number: 1}, api.Block{Number: 257}, false}, {api.Block{Sum: 7}, api.Block{Sum: 8}, false}, {letter(make([]byte, 1<<17)), letter(make([]byte, 1<<17)), true}, {letter(make([]byte, 1<<17)), letter(make([]byte, 1<<17+1)), false},
	} {
		if is, back := block.Same(c.a, c.b), block.Same(c.b, c.a); is != c.want || back != c.want {
			t.Errorf("Same(%v, %v): %v %v", brief(c.a), brief(c.b), is, back)
		}
	}
	l := samples()
	for _, a := range l {
		for _, b := range l[:60] {
			if is := block.Same(a, b); is != alike(a, b) {
				t.Errorf("Same(%v, %v): %v", brief(a), brief(b), is)
			}
		}
		b := a
		if b.Data = bytes.Clone(a.Data); !block.Same(a, b) {
			t.Errorf("Same(%v, a copy): false", brief(a))
		}
		for i := range min(len(b.Data), 100) {
			if b.Data[i] ^= 0x40; block.Same(a, b) {
				t.Errorf("Same(%v, %v): true", brief(a), brief(b))
			}
			b.Data[i] ^= 0x40
		}
	}
}

func TestSameExtra(t *testing.T) {
	full := extras()[1]
	full.Path = back(up(5), down(3))
	but := func(change func(*api.Extra)) api.Extra {
		x := full
		x.Path.L = slices.Clone(full.Path.L)
		change(&x)
		return x
	}
	if !block.SameExtra(full, but(func(*api.Extra) {})) || !block.SameExtra(api.Extra{}, api.Extra{Path: api.Path{L: []api.Cross{}}}) {
		t.Errorf("SameExtra of a copy: false")
	}
	for _, x := range []api.Extra{
		but(func(x *api.Extra) { x.Before.Node++ }), but(func(x *api.Extra) { x.Before.Service++ }), but(func(x *api.Extra) { x.Before = end(0, 0) }), but(func(x *api.Extra) { x.Age++ }), but(func(x *api.Extra) { x.Age ^= 1 << 63 }), but(func(x *api.Extra) { x.Limit ^= 128 }), but(func(x *api.Extra) { x.Count++ }), but(func(x *api.Extra) { x.Limit, x.Count = x.Count, x.Limit }),
		but(func(x *api.Extra) { x.Path.Back = false }), but(func(x *api.Extra) { x.Path.L = x.Path.L[:1] }), but(func(x *api.Extra) { x.Path.L = nil }), but(func(x *api.Extra) { x.Path.L[0].Up = false }), but(func(x *api.Extra) { x.Path.L[1].Gate++ }), but(func(x *api.Extra) { slices.Reverse(x.Path.L) }), but(func(x *api.Extra) { x.Path.L = append(x.Path.L, up(9)) }),
	} {
		if block.SameExtra(full, x) || block.SameExtra(x, full) {
			t.Errorf("SameExtra(%v, %v): true", full, x)
		}
	}
	l := slices.Concat(extras(), wrongExtras())
	for _, a := range l {
		for _, b := range l {
			if is := block.SameExtra(a, b); is != alikeExtra(a, b) {
				t.Errorf("SameExtra(%v, %v): %v", a, b, is)
			}
		}
	}
}

// P8.4

func TestDecodeOfEncode(t *testing.T) {
	seen := map[string]api.Block{}
	for _, x := range append(samples(), anyBlocks(5000)...) {
		b, e := block.Encode(x)
		y, f := block.Decode(b)
		if !alike(x, y) || e != api.OK || f != api.OK {
			t.Errorf("Decode of Encode(%v): %v %v %v", brief(x), brief(y), e, f)
		}
		if other, is := seen[string(b)]; is && !alike(other, x) {
			t.Errorf("%v and %v: % .200x", brief(x), brief(other), b)
		}
		seen[string(b)] = x
	}
}

// goesBack holds Encode of Decode against the bytes, if these are a block's.
func goesBack(t *testing.T, b []byte) {
	t.Helper()
	x, e := block.Decode(b)
	if e != api.OK {
		if !none(x) || !slices.Contains([]api.Errno{api.ErrLong, api.ErrDeep, api.ErrCbor, api.ErrBlock, api.ErrSum}, e) {
			t.Errorf("Decode(% x): %v %v", b, x, e)
		}
		return
	}
	if c, f := block.Encode(x); !bytes.Equal(c, b) || f != api.OK || !bytes.Equal(laid(x), b) {
		t.Errorf("Encode of Decode(% x): % x %v", b, c, f)
	}
}

func TestEncodeOfDecode(t *testing.T) {
	// Bytes that go astray a little; where a sum stands behind, it is often the right one.
	chance := rand.New(rand.NewSource(11))
	for _, x := range append(samples(), anyBlocks(20000)...) {
		b := laid(x)
		if len(b) > 1000 {
			continue
		}
		for range 1 + chance.Intn(3) {
			b[chance.Intn(len(b))] ^= byte(1 << chance.Intn(8))
		}
		goesBack(t, b)
		goesBack(t, summed(x.Sum, b))
	}
}

func FuzzDecode(f *testing.F) {
	for _, x := range samples() {
		f.Add(laid(x))
	}
	f.Fuzz(func(t *testing.T, b []byte) { goesBack(t, b) })
}

func TestOneBitIsNoBlock(t *testing.T) {
	for _, x := range append(samples(), anyBlocks(300)...) {
		b := laid(x)
		if x.Sum == api.SumNone || len(b) > 1000 {
			continue
		}
		for i := range 8 * len(b) {
			b[i/8] ^= 1 << (i % 8)
			if y, e := block.Decode(b); !none(y) || e == api.OK {
				t.Errorf("%v, bit %d: %v %v", x, i, y, e)
			}
			b[i/8] ^= 1 << (i % 8)
		}
	}
}

func TestOfOfExtras(t *testing.T) {
	for _, x := range append(extras(), anyExtras(3000)...) {
		for _, k := range sums() {
			l, e := block.Extras(x, k)
			y, f := block.Of(l...)
			if !alikeExtra(x, y) || !block.SameExtra(x, y) || e != api.OK || f != api.OK {
				t.Errorf("Of of Extras(%v, %d): %v %v %v", x, k, y, e, f)
			}
		}
	}
}

// The rules that hold everywhere.

func TestBytesAreNotChangedAndNotKept(t *testing.T) {
	for _, x := range samples() {
		room := append(laid(x), 1, 2, 3, 4, 5, 6, 7, 8)
		own := slices.Clone(room)
		s := room[:len(room)-8]
		y, e := block.Decode(s)
		if !bytes.Equal(room, own) {
			t.Errorf("Decode changed % .100x to % .100x", own, room)
		}
		clear(room)
		if !alike(x, y) || e != api.OK {
			t.Errorf("Decode, behind a change: %v %v", brief(y), e)
		}
		room = append(slices.Clone(x.Data), 1, 2, 3, 4, 5, 6, 7, 8)
		own = slices.Clone(room)
		z := x
		z.Data = room[:len(x.Data)]
		b, e := block.Encode(z)
		block.Check(z)
		block.Same(z, z)
		if !bytes.Equal(room, own) {
			t.Errorf("Encode changed % .100x to % .100x", own, room)
		}
		clear(room)
		if !bytes.Equal(b, laid(x)) || e != api.OK {
			t.Errorf("Encode, behind a change: % .100x %v", b, e)
		}
	}
}

func TestBlocksAreNotChangedAndNotKept(t *testing.T) {
	x := api.Extra{Before: end(3, 0), Age: 5, Limit: 9, Count: 1, Path: back(up(5), down(3))}
	l := append(wanted(x, api.SumShort), letter([]byte("hi")))
	own := append(wanted(x, api.SumShort), letter([]byte("hi")))
	y, e := block.Of(l[:4]...)
	all := block.Types(l[:4]...)
	for range all {
	}
	if !slices.EqualFunc(l, own, alike) {
		t.Errorf("Of changed them: %v", l)
	}
	for _, b := range l {
		clear(b.Data)
	}
	clear(l)
	if !alikeExtra(x, y) || e != api.OK {
		t.Errorf("Of, behind a change: %v %v", y, e)
	}
	// The crossings of an extra, and the room behind them.
	room := []api.Cross{up(5), down(3), up(7), up(8)}
	x.Path.L = room[:2]
	m, _ := block.Extras(x, api.SumShort)
	if !slices.Equal(room, []api.Cross{up(5), down(3), up(7), up(8)}) {
		t.Errorf("Extras changed them: %v", room)
	}
	clear(room)
	if !slices.EqualFunc(m, own[:4], alike) {
		t.Errorf("Extras, behind a change: %v", m)
	}
}

func TestAnswersAreNewMemory(t *testing.T) {
	for _, x := range samples() {
		a, _ := block.Encode(x)
		b, _ := block.Encode(x)
		clear(a[:cap(a)])
		if !bytes.Equal(b, laid(x)) {
			t.Errorf("Encode, behind a change of another answer: % .100x", b)
		}
		c, _ := block.Decode(b)
		d, _ := block.Decode(b)
		clear(c.Data[:cap(c.Data)])
		if !alike(d, x) {
			t.Errorf("Decode, behind a change of another answer: %v", brief(d))
		}
	}
	x := extras()[2]
	want := wanted(x, api.SumLong)
	l, _ := block.Extras(x, api.SumLong)
	m, _ := block.Extras(x, api.SumLong)
	// One block's data that grow don't grow upon another one's.
	for _, b := range l {
		_ = append(b.Data, 0xee, 0xee, 0xee)
	}
	if !slices.EqualFunc(l, want, alike) {
		t.Errorf("within itself: %v", l)
	}
	y, _ := block.Of(l...)
	z, _ := block.Of(l...)
	for _, b := range l {
		clear(b.Data[:cap(b.Data)])
	}
	clear(l[:cap(l)])
	if !slices.EqualFunc(m, want, alike) {
		t.Errorf("Extras, behind a change of another answer: %v", m)
	}
	clear(y.Path.L[:cap(y.Path.L)])
	if !alikeExtra(z, x) {
		t.Errorf("Of, behind a change of another answer: %v", z)
	}
}
