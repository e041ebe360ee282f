package primary_test

import (
	"bytes"
	"encoding/binary"
	"hash/crc32"
	"math"
	"math/big"
	"math/rand"
	"slices"
	"testing"

	"packsaddle/api"
	"packsaddle/cbor"
	"packsaddle/primary"
)

func end(node, service uint32) api.Endpoint { return api.Endpoint{Node: node, Service: service} }

func number(n uint64) api.Item    { return api.Item{Kind: api.ItemUint, N: n} }
func text(s string) api.Item      { return api.Item{Kind: api.ItemText, S: s} }
func data(b ...byte) api.Item     { return api.Item{Kind: api.ItemBytes, B: b} }
func list(l ...api.Item) api.Item { return api.Item{Kind: api.ItemList, L: l} }
func truth(n uint64) api.Item     { return api.Item{Kind: api.ItemBool, N: n} }

// null is an item by itself.
var null = api.Item{Kind: api.ItemNull}

// plain is the document's first example.
func plain() api.Primary {
	return api.Primary{To: end(2, 0), Source: end(1, 0), Time: 5, Seq: 6, Life: 7}
}

// of is the example with that sum.
func of(k api.SumKind) api.Primary {
	p := plain()
	p.Sum = k
	return p
}

// sums are the kinds that there are.
func sums() []api.SumKind { return []api.SumKind{api.SumNone, api.SumShort, api.SumLong} }

// rights are the flags that may be.
func rights() []uint32 { return []uint32{0, 2, 32, 34, 128, 130, 160, 162, 256, 258, 288, 290} }

// wrongs are flags that may not be.
func wrongs() []uint32 {
	return []uint32{1, 3, 4, 8, 16, 33, 35, 36, 64, 66, 98, 127, 129, 192, 255, 257, 260, 291, 320, 384, 386, 416, 418, 511, 512, 514, 640, 1024, 1 << 15, 1 << 16, 1<<16 + 2, 1 << 31, 1<<31 + 128, 1<<32 - 256, 1<<32 - 128, 1<<32 - 1}
}

// samples are primaries that may be: each part at its ends, and others.
func samples() []api.Primary {
	var l []api.Primary
	for _, k := range sums() {
		for _, flags := range rights() {
			p := of(k)
			p.Flags = flags
			l = append(l, p)
		}
		for _, x := range []api.Endpoint{end(1, 0), end(1, 1), end(23, 24), end(255, 256), end(65535, 65536), end(1<<32-1, 0), end(1<<32-1, 1<<32-1)} {
			p, q, r := of(k), of(k), of(k)
			p.To, q.Source, r.Report = x, x, x
			l = append(l, p, q, r)
		}
		for _, n := range []uint64{0, 1, 23, 24, 255, 256, 65535, 65536, 1<<32 - 1, 1 << 32, api.Forever - 1, api.Forever} {
			p, q, r := of(k), of(k), of(k)
			p.Time, q.Life, r.Seq = n, n, uint32(n)
			l = append(l, p, q, r)
		}
		l = append(l, of(k), greatest(k))
	}
	return l
}

// greatest has all parts as great as they may be.
func greatest(k api.SumKind) api.Primary {
	last := end(1<<32-1, 1<<32-1)
	return api.Primary{Flags: 290, Sum: k, To: last, Source: last, Report: last, Time: api.Forever, Seq: 1<<32 - 1, Life: api.Forever}
}

// no is a primary that may not be, and which part of it.
type no struct {
	part string
	p    api.Primary
}

// noes are the example with one part that may not be.
func noes() []no {
	var l []no
	but := func(part string, change func(*api.Primary)) {
		for _, k := range sums() {
			p := of(k)
			change(&p)
			l = append(l, no{part, p})
		}
	}
	for _, flags := range wrongs() {
		but("flags", func(p *api.Primary) { p.Flags = flags })
	}
	for _, k := range []api.SumKind{-1, 3, 4, 255, 256, 257, 1 << 16, math.MaxInt, math.MinInt, math.MinInt + 1} {
		but("sum", func(p *api.Primary) { p.Sum = k })
	}
	for _, service := range []uint32{0, 1, 1<<32 - 1} {
		but("to", func(p *api.Primary) { p.To = end(0, service) })
		but("source", func(p *api.Primary) { p.Source = end(0, service) })
	}
	for _, service := range []uint32{1, 5, 1<<32 - 1} {
		but("report", func(p *api.Primary) { p.Report = end(0, service) })
	}
	for _, n := range []uint64{api.Forever + 1, 1 << 63, math.MaxUint64} {
		but("time", func(p *api.Primary) { p.Time = n })
		but("life", func(p *api.Primary) { p.Life = n })
	}
	but("all", func(p *api.Primary) { *p = api.Primary{Sum: p.Sum} })
	return l
}

// P6.1

func TestCheck(t *testing.T) {
	for _, p := range samples() {
		if e := primary.Check(p); e != api.OK {
			t.Errorf("Check(%+v): %v", p, e)
		}
	}
	for _, x := range noes() {
		if e := primary.Check(x.p); e != api.ErrArg {
			t.Errorf("%s: Check(%+v): %v", x.part, x.p, e)
		}
	}
	for flags := range uint32(1 << 12) {
		p, want := plain(), api.ErrArg
		if p.Flags = flags; slices.Contains(rights(), flags) {
			want = api.OK
		}
		if e := primary.Check(p); e != want {
			t.Errorf("Check of flags %d: %v", flags, e)
		}
	}
	if e := primary.Check(api.Primary{}); e != api.ErrArg {
		t.Errorf("Check of noughts: %v", e)
	}
}

func TestFlags(t *testing.T) {
	for _, c := range []struct {
		rank int
		l    []uint32
		want uint32
	}{
		{0, nil, 0}, {1, nil, 128}, {2, nil, 256}, {0, []uint32{}, 0},
		{0, []uint32{2}, 2}, {0, []uint32{32}, 32}, {0, []uint32{2, 32}, 34}, {0, []uint32{32, 2}, 34}, {2, []uint32{2, 32}, 290},
		// Once, however often it is told.
		{1, []uint32{2, 2}, 130}, {1, []uint32{32, 32, 32}, 160}, {2, []uint32{2, 32, 2, 32}, 290}, {0, slices.Repeat([]uint32{2}, 1000), 2},
		// No others.
		{0, []uint32{0, 1, 3, 4, 8, 16, 34, 64, 128, 256, 384, 1<<32 - 1}, 0}, {1, []uint32{256, 2, 1}, 130}, {2, []uint32{35, 32, 128}, 288}, {0, []uint32{34}, 0}, {0, wrongs(), 0},
		// Of a rank that there is not, of 0.
		{-1, []uint32{2}, 2}, {3, []uint32{32}, 32}, {3, nil, 0}, {4, nil, 0}, {128, nil, 0}, {math.MaxInt, []uint32{2, 32}, 34}, {math.MinInt, nil, 0}, {1<<32 + 1, nil, 0}, {-1 << 32, nil, 0}, {1<<25 + 1, nil, 0},
	} {
		told := slices.Clone(c.l)
		if n := primary.Flags(c.rank, c.l...); n != c.want {
			t.Errorf("Flags(%d, %v): %d, not %d", c.rank, c.l, n, c.want)
		}
		if !slices.Equal(told, c.l) {
			t.Errorf("Flags(%d, %v) changed them: %v", c.rank, told, c.l)
		}
	}
	for rank := range 3 {
		for _, l := range [][]uint32{nil, {2}, {32}, {2, 32}} {
			p := plain()
			p.Flags = primary.Flags(rank, l...)
			if e := primary.Check(p); e != api.OK || primary.Rank(p) != rank || !slices.Equal(slices.Collect(primary.Wants(p)), l) {
				t.Errorf("of Flags(%d, %v): %v, rank %d", rank, l, e, primary.Rank(p))
			}
		}
	}
}

func TestEncode(t *testing.T) {
	first := "\x88\x07\x00\x00\x82\x02\x82\x02\x00\x82\x02\x82\x01\x00\x82\x01\x00\x82\x05\x06\x07"
	if b, e := primary.Encode(plain()); string(b) != first || e != api.OK {
		t.Errorf("the example: % x %v", b, e)
	}
	p := api.Primary{Flags: 290, Sum: api.SumNone, To: end(24, 5), Source: end(256, 1<<16), Report: end(1<<32-1, 23), Time: api.Forever, Seq: 1<<32 - 1, Life: 255}
	want := "\x88\x07\x19\x01\x22\x00\x82\x02\x82\x18\x18\x05\x82\x02\x82\x19\x01\x00\x1a\x00\x01\x00\x00\x82\x02\x82\x1a\xff\xff\xff\xff\x17\x82\x1b\x3f\xff\xff\xff\xff\xff\xff\xff\x1a\xff\xff\xff\xff\x18\xff"
	if b, e := primary.Encode(p); string(b) != want || e != api.OK {
		t.Errorf("of %+v: % x %v", p, b, e)
	}
	for _, x := range noes() {
		if b, e := primary.Encode(x.p); b != nil || e != api.ErrArg {
			t.Errorf("%s: Encode(%+v): % x %v", x.part, x.p, b, e)
		}
	}
}

// head is that of a major and a number, by another road.
func head(major byte, n uint64) []byte {
	long := binary.BigEndian.AppendUint64(nil, n)
	switch {
	case n < 24:
		return []byte{major<<5 | byte(n)}
	case n < 1<<8:
		return append([]byte{major<<5 | 24}, long[7:]...)
	case n < 1<<16:
		return append([]byte{major<<5 | 25}, long[6:]...)
	case n < 1<<32:
		return append([]byte{major<<5 | 26}, long[4:]...)
	}
	return append([]byte{major<<5 | 27}, long...)
}

// place is an endpoint's bytes.
func place(x api.Endpoint) []byte {
	if x == (api.Endpoint{}) {
		return []byte{0x82, 1, 0}
	}
	return slices.Concat([]byte{0x82, 2, 0x82}, head(0, uint64(x.Node)), head(0, uint64(x.Service)))
}

// short is the short sum, bit by bit as the document tells it.
func short(b []byte) uint16 {
	w := uint16(0xffff)
	for _, x := range b {
		for i := range 8 {
			unlike := (uint16(x>>i)^w)&1 == 1
			if w >>= 1; unlike {
				w ^= 0x8408
			}
		}
	}
	return ^w
}

// summed puts the right sum upon the last bytes of a primary's.
func summed(k api.SumKind, b []byte) []byte {
	b = slices.Clone(b)
	switch k {
	case api.SumShort:
		last := b[len(b)-2:]
		clear(last)
		binary.BigEndian.PutUint16(last, short(b))
	case api.SumLong:
		last := b[len(b)-4:]
		clear(last)
		binary.BigEndian.PutUint32(last, crc32.Checksum(b, crc32.MakeTable(crc32.Castagnoli)))
	}
	return b
}

// laid is a primary's bytes, by another road. It lays such as may not be, too.
func laid(p api.Primary) []byte {
	b := slices.Concat([]byte{0x88, 7}, head(0, uint64(p.Flags)), head(0, uint64(p.Sum)), place(p.To), place(p.Source), place(p.Report), []byte{0x82}, head(0, p.Time), head(0, uint64(p.Seq)), head(0, p.Life))
	switch p.Sum {
	case api.SumShort:
		b = append(b, 0x42, 0, 0)
	case api.SumLong:
		b = append(b, 0x44, 0, 0, 0, 0)
	default:
		return b
	}
	b[0] = 0x89
	return summed(p.Sum, b)
}

func TestEncodeByAnotherRoad(t *testing.T) {
	for _, p := range append(samples(), anyPrimaries(2000)...) {
		if b, e := primary.Encode(p); !bytes.Equal(b, laid(p)) || e != api.OK {
			t.Errorf("Encode(%+v): % x %v, not % x", p, b, e, laid(p))
		}
	}
}

// anyPrimaries are so many that may be.
func anyPrimaries(n int) []api.Primary {
	chance := rand.New(rand.NewSource(6))
	number := func(bits int) uint64 { return chance.Uint64() >> (64 - bits) >> chance.Intn(bits+1) }
	source := func() api.Endpoint { return end(uint32(max(1, number(32))), uint32(number(32))) }
	l := make([]api.Primary, n)
	for i := range l {
		l[i] = api.Primary{Flags: rights()[chance.Intn(12)], Sum: api.SumKind(chance.Intn(3)), To: source(), Source: source(), Time: number(62), Seq: uint32(number(32)), Life: number(62)}
		if chance.Intn(2) == 0 {
			l[i].Report = source()
		}
	}
	return l
}

// unread holds Decode against the error that it is to have.
func unread(t *testing.T, b []byte, want api.Errno) {
	t.Helper()
	if p, e := primary.Decode(b); p != (api.Primary{}) || e != want {
		t.Errorf("Decode(% .100x): %+v %v, not %v", b, p, e, want)
	}
}

func TestDecode(t *testing.T) {
	for _, p := range append(samples(), anyPrimaries(2000)...) {
		if q, e := primary.Decode(laid(p)); q != p || e != api.OK {
			t.Errorf("Decode(% x): %+v %v, not %+v", laid(p), q, e, p)
		}
	}
}

func TestDecodeRefusesAsLayer3(t *testing.T) {
	for _, p := range samples() {
		b := laid(p)
		// Too few, too many.
		for i := range b {
			unread(t, b[:i], api.ErrCbor)
		}
		unread(t, append(slices.Clone(b), 0), api.ErrCbor)
		unread(t, append(slices.Clone(b), b...), api.ErrCbor)
		unread(t, append([]byte{0}, b...), api.ErrCbor)
	}
	for _, c := range []struct {
		b    []byte
		want api.Errno
	}{
		{nil, api.ErrCbor}, {[]byte{}, api.ErrCbor}, {[]byte{0xff}, api.ErrCbor}, {[]byte{0x88}, api.ErrCbor}, {[]byte{0x18, 0x17}, api.ErrCbor},
		// A head that is too wide.
		{[]byte("\x88\x18\x07\x00\x00\x82\x02\x82\x02\x00\x82\x02\x82\x01\x00\x82\x01\x00\x82\x05\x06\x07"), api.ErrCbor},
		{[]byte("\x88\x07\x00\x00\x82\x02\x82\x02\x00\x82\x02\x82\x01\x00\x82\x01\x00\x82\x05\x06\x18\x07"), api.ErrCbor},
		{[]byte("\x88\x07\x00\x00\x82\x02\x82\x02\x00\x82\x02\x82\x01\x00\x82\x01\x00\x82\x05\x19\x00\x06\x07"), api.ErrCbor},
		{[]byte("\x81\x81\x81\x81\x81\x81\x81\x81\x00"), api.ErrDeep},
		{[]byte("\x88\x07\x00\x00\x82\x02\x82\x02\x00\x82\x02\x82\x01\x00\x82\x01\x00\x82\x05\x06\x81\x81\x81\x81\x81\x81\x81\x81\x07"), api.ErrDeep},
		// What is found first counts.
		{[]byte("\x82\x81\x81\x81\x81\x81\x81\x81\x81\x00\xff"), api.ErrDeep}, {[]byte("\x82\xff\x81\x81\x81\x81\x81\x81\x81\x81\x00"), api.ErrCbor},
		{make([]byte, api.MaxText), api.ErrCbor}, {make([]byte, api.MaxText+1), api.ErrLong}, {append(laid(plain()), make([]byte, api.MaxText)...), api.ErrLong}, {make([]byte, 1<<20), api.ErrLong},
	} {
		unread(t, c.b, c.want)
	}
}

// items are the example's, with one at a place that is another one.
func items(at int, x api.Item) []api.Item {
	l := []api.Item{number(7), number(0), number(0), list(number(2), list(number(2), number(0))), list(number(2), list(number(1), number(0))), list(number(1), number(0)), list(number(5), number(6)), number(7)}
	if at < len(l) {
		l[at] = x
		return l
	}
	return append(l, x)
}

// itemBytes are an item's bytes.
func itemBytes(t *testing.T, x api.Item) []byte {
	t.Helper()
	b, e := cbor.Encode(x)
	if e != api.OK {
		t.Fatalf("%+v: %v", x, e)
	}
	return b
}

// strange are items that stand at no place of a primary's.
func strange() []api.Item {
	return []api.Item{null, truth(0), truth(1), data(), data(7), text(""), text("7"), list(), list(number(7)), list(number(1), null), list(null, number(0)), list(number(0), number(0), number(0)), list(list(number(1), number(0))), number(math.MaxUint64)}
}

func TestDecodeRefusesOtherItems(t *testing.T) {
	for _, x := range append(strange(), number(0), number(7), list(number(1), number(0)), list(list(), list())) {
		unread(t, itemBytes(t, x), api.ErrPrimary)
	}
	if p, e := primary.Decode(itemBytes(t, list(items(0, number(7))...))); p != plain() || e != api.OK {
		t.Fatalf("the example: %+v %v", p, e)
	}
	for at := range 9 {
		for _, x := range strange() {
			unread(t, itemBytes(t, list(items(at, x)...)), api.ErrPrimary)
		}
	}
	// Fewer, none, and as bytes.
	for n := range 8 {
		unread(t, itemBytes(t, list(items(0, number(7))[:n]...)), api.ErrPrimary)
	}
	unread(t, itemBytes(t, data(laid(plain())...)), api.ErrPrimary)
	unread(t, itemBytes(t, list(list(items(0, number(7))...))), api.ErrPrimary)
	unread(t, itemBytes(t, list(append(items(0, number(7)), number(0), number(0))...)), api.ErrPrimary)
}

func TestDecodeRefusesOtherParts(t *testing.T) {
	source := func(node, service uint64) api.Item {
		return list(number(2), list(number(node), number(service)))
	}
	nobody := list(number(1), number(0))
	for _, c := range []struct {
		at int
		l  []api.Item
	}{
		{0, []api.Item{number(0), number(6), number(8), number(7 + 1<<32), list(number(7))}},
		{1, []api.Item{number(1), number(4), number(64), number(127), number(384), number(386), number(512), number(1<<32 - 128), number(1 << 32), number(1<<32 + 2), number(1<<63 + 128)}},
		{2, []api.Item{number(3), number(4), number(256), number(1 << 32), number(1<<32 + 1), number(1 << 63)}},
		{3, []api.Item{nobody, source(0, 0), source(0, 1), source(1<<32, 0), source(1, 1<<32), list(number(2), number(0)), number(0)}},
		{4, []api.Item{nobody, source(0, 0), source(0, 1), source(1<<32, 0), source(1, 1<<32), list(number(3), list(number(1), number(0)))}},
		{5, []api.Item{source(0, 0), source(0, 1), source(1<<32, 0), source(1, 1<<32), list(number(1), number(1)), number(0)}},
		{6, []api.Item{list(), list(number(5)), list(number(5), number(6), number(7)), list(number(api.Forever+1), number(6)), list(number(5), number(1<<32)), list(number(5), number(1<<32+6)), list(number(5), null), list(null, number(6)), list(number(5), list(number(6))), number(5), data(5, 6)}},
		{7, []api.Item{number(api.Forever + 1), number(1 << 63), list(number(7)), truth(1)}},
		{8, []api.Item{number(0), data(), data(0), data(0, 0), data(0, 0, 0, 0), null}},
	} {
		for _, x := range c.l {
			unread(t, itemBytes(t, list(items(c.at, x)...)), api.ErrPrimary)
		}
	}
	// With a sum, it is the right one.
	for _, x := range noes() {
		if x.part != "sum" {
			unread(t, laid(x.p), api.ErrPrimary)
		}
	}
}

func TestDecodeRefusesOtherSums(t *testing.T) {
	for _, p := range append(samples(), anyPrimaries(200)...) {
		if p.Sum == api.SumNone {
			continue
		}
		b := laid(p)
		for i := range 2 * int(p.Sum) {
			for _, x := range []byte{1, 0x80, 0xff} {
				c := slices.Clone(b)
				c[len(c)-1-i] ^= x
				unread(t, c, api.ErrSum)
			}
		}
		// Its noughts are none, but by chance.
		c := slices.Clone(b)
		clear(c[len(c)-2*int(p.Sum):])
		if !bytes.Equal(c, b) {
			unread(t, c, api.ErrSum)
		}
		// The right sum of other bytes is another one's.
		q := p
		q.Life ^= 1
		unread(t, append(slices.Clone(b[:len(b)-2*int(p.Sum)]), laid(q)[len(laid(q))-2*int(p.Sum):]...), api.ErrSum)
	}
}

func TestDecodeRefusesSumsOfOtherSorts(t *testing.T) {
	for _, k := range []api.SumKind{api.SumShort, api.SumLong} {
		b := laid(of(k))
		right := b[len(b)-2*int(k):]
		with := func(l ...api.Item) []byte {
			return itemBytes(t, list(append(items(2, number(uint64(k))), l...)...))
		}
		if p, e := primary.Decode(with(data(right...))); p != of(k) || e != api.OK {
			t.Fatalf("sum %d: %+v %v", k, p, e)
		}
		// No bytes, none at all, more than these.
		for _, l := range [][]api.Item{nil, {number(0)}, {text("ab")}, {text("abcd")}, {list(data(right...))}, {null}, {truth(0)}, {data(right...), data(right...)}, {data(right...), number(0)}, {data(right...), null}} {
			unread(t, with(l...), api.ErrPrimary)
		}
		// Others, of whatever length.
		for _, x := range [][]byte{nil, {0}, right[:1], right[:len(right)-1], append(slices.Clone(right), 0), append([]byte{0}, right...), slices.Repeat(right, 2), make([]byte, 1000)} {
			unread(t, with(data(x...)), api.ErrSum)
		}
		// What is none's counts ahead of a sum that is another one.
		for _, flags := range []uint64{1, 384} {
			l := append(items(2, number(uint64(k))), data(make([]byte, 2*int(k))...))
			l[1] = number(flags)
			unread(t, itemBytes(t, list(l...)), api.ErrPrimary)
		}
	}
}

// P6.2

func TestName(t *testing.T) {
	for _, p := range samples() {
		if n, e := primary.Name(p); n != (api.Name{Source: p.Source, Time: p.Time, Seq: p.Seq}) || e != api.OK {
			t.Errorf("Name(%+v): %+v %v", p, n, e)
		}
	}
	for _, x := range noes() {
		want, e := api.Name{Source: x.p.Source, Time: x.p.Time, Seq: x.p.Seq}, api.OK
		// The other parts are none of the name's.
		if x.part == "source" || x.part == "time" || x.part == "all" {
			want, e = api.Name{}, api.ErrArg
		}
		if n, f := primary.Name(x.p); n != want || f != e {
			t.Errorf("%s: Name(%+v): %+v %v", x.part, x.p, n, f)
		}
	}
}

func TestExpires(t *testing.T) {
	l := []uint64{0, 1, 5, 7, 1<<32 - 1, 1 << 32, 1 << 61, api.Forever - 1, api.Forever, api.Forever + 1, 1 << 63, math.MaxUint64 - 1, math.MaxUint64}
	for _, time := range l {
		for _, life := range l {
			want := new(big.Int).Add(new(big.Int).SetUint64(time), new(big.Int).SetUint64(life))
			if last := big.NewInt(api.Forever); want.Cmp(last) > 0 {
				want = last
			}
			if n := primary.Expires(api.Primary{Time: time, Life: life}); n != want.Uint64() {
				t.Errorf("Expires at %d for %d: %d, not %v", time, life, n, want)
			}
		}
	}
	if n := primary.Expires(plain()); n != 12 {
		t.Errorf("Expires of the example: %d", n)
	}
}

func TestRank(t *testing.T) {
	for i, flags := range rights() {
		// The other parts may be such as may not be.
		for _, p := range []api.Primary{{Flags: flags}, {Flags: flags, Sum: 3, Time: math.MaxUint64}} {
			if n := primary.Rank(p); n != i/4 {
				t.Errorf("Rank of flags %d: %d", flags, n)
			}
		}
	}
	for _, flags := range wrongs() {
		p := plain()
		if p.Flags = flags; primary.Rank(p) != 0 {
			t.Errorf("Rank of flags %d: %d", flags, primary.Rank(p))
		}
	}
	for flags := range uint32(1 << 16) {
		want := 0
		if slices.Contains(rights(), flags) {
			want = int(flags) >> 7
		}
		if n := primary.Rank(api.Primary{Flags: flags}); n != want {
			t.Errorf("Rank of flags %d: %d", flags, n)
		}
	}
}

func TestHas(t *testing.T) {
	for _, flags := range rights() {
		p := plain()
		p.Flags = flags
		for _, c := range []struct {
			flag uint32
			want bool
		}{
			{api.FlagAdmin, flags%32 == 2}, {api.FlagWant, flags%128 >= 32}, {0, false}, {34, false}, {128, false}, {256, false}, {384, false}, {130, false}, {160, false}, {290, false}, {1, false}, {3, false}, {4, false}, {64, false}, {1 << 31, false}, {1<<32 - 1, false},
		} {
			if is := primary.Has(p, c.flag); is != c.want {
				t.Errorf("Has(flags %d, %d): %v", flags, c.flag, is)
			}
		}
	}
	for flag := range uint32(1 << 12) {
		p := api.Primary{Flags: 1<<32 - 1}
		if is := primary.Has(p, flag); is != (flag == 2 || flag == 32) {
			t.Errorf("Has(all flags, %d): %v", flag, is)
		}
	}
}

func TestWants(t *testing.T) {
	for _, flags := range slices.Concat(rights(), wrongs()) {
		var want []uint32
		for _, flag := range []uint32{2, 32} {
			if flags&flag != 0 {
				want = append(want, flag)
			}
		}
		p := plain()
		p.Flags = flags
		if l := slices.Collect(primary.Wants(p)); !slices.Equal(l, want) {
			t.Errorf("Wants of flags %d: %v, not %v", flags, l, want)
		}
	}
}

func TestWantsIsLeftAndGoneOverAgain(t *testing.T) {
	p := plain()
	p.Flags = 290
	all := primary.Wants(p)
	// What it goes over is as it was.
	p.Flags = 0
	for most := 1; most <= 2; most++ {
		var got []uint32
		for flag := range all {
			got = append(got, flag)
			if len(got) == most {
				break
			}
		}
		if !slices.Equal(got, []uint32{2, 32}[:most]) {
			t.Errorf("left behind %d: %v", most, got)
		}
	}
	// One goes over it while another one does.
	for range all {
		if got := slices.Collect(all); !slices.Equal(got, []uint32{2, 32}) {
			t.Errorf("within another: %v", got)
		}
	}
}

// P6.3

func TestDecodeOfEncode(t *testing.T) {
	seen := map[string]api.Primary{}
	for _, p := range append(samples(), anyPrimaries(5000)...) {
		b, e := primary.Encode(p)
		q, f := primary.Decode(b)
		if q != p || e != api.OK || f != api.OK {
			t.Errorf("Decode of Encode(%+v): %+v %v %v", p, q, e, f)
		}
		if other, is := seen[string(b)]; is && other != p {
			t.Errorf("%+v and %+v: % x", p, other, b)
		}
		seen[string(b)] = p
	}
}

// goesBack holds Encode of Decode against the bytes, if these are a primary's.
func goesBack(t *testing.T, b []byte) {
	t.Helper()
	p, e := primary.Decode(b)
	if e != api.OK {
		if p != (api.Primary{}) || !slices.Contains([]api.Errno{api.ErrLong, api.ErrDeep, api.ErrCbor, api.ErrPrimary, api.ErrSum}, e) {
			t.Errorf("Decode(% x): %+v %v", b, p, e)
		}
		return
	}
	if c, f := primary.Encode(p); !bytes.Equal(c, b) || f != api.OK || !bytes.Equal(laid(p), b) {
		t.Errorf("Encode of Decode(% x): % x %v", b, c, f)
	}
}

func TestEncodeOfDecode(t *testing.T) {
	// Bytes that go astray a little; where a sum stands behind, it is often the right one.
	chance := rand.New(rand.NewSource(7))
	for _, p := range append(samples(), anyPrimaries(20000)...) {
		b := laid(p)
		for range 1 + chance.Intn(3) {
			b[chance.Intn(len(b))] ^= byte(1 << chance.Intn(8))
		}
		goesBack(t, b)
		goesBack(t, summed(p.Sum, b))
	}
}

func FuzzDecode(f *testing.F) {
	for _, p := range samples() {
		f.Add(laid(p))
	}
	f.Fuzz(func(t *testing.T, b []byte) { goesBack(t, b) })
}

func TestOneBitIsNoPrimary(t *testing.T) {
	for _, p := range append(samples(), anyPrimaries(300)...) {
		if p.Sum == api.SumNone {
			continue
		}
		b := laid(p)
		for i := range 8 * len(b) {
			b[i/8] ^= 1 << (i % 8)
			if q, e := primary.Decode(b); q != (api.Primary{}) || e == api.OK {
				t.Errorf("%+v, bit %d: %+v %v", p, i, q, e)
			}
			b[i/8] ^= 1 << (i % 8)
		}
	}
}

// The rules that hold everywhere.

func TestBytesAreNotChangedAndNotKept(t *testing.T) {
	for _, p := range []api.Primary{plain(), of(api.SumShort), of(api.SumLong), {Flags: 384}} {
		room := append(laid(p), 1, 2, 3, 4, 5, 6, 7, 8)
		own := slices.Clone(room)
		b := room[:len(room)-8]
		q, e := primary.Decode(b)
		if !bytes.Equal(room, own) {
			t.Errorf("Decode changed % x to % x", own, room)
		}
		clear(room)
		if again, f := primary.Decode(own[:len(b)]); again != q || f != e {
			t.Errorf("behind a change: %+v %v, ahead of it %+v %v", again, f, q, e)
		}
	}
}

func TestEncodedBytesAreNewMemory(t *testing.T) {
	for _, k := range sums() {
		a, _ := primary.Encode(of(k))
		b, _ := primary.Encode(of(k))
		clear(a[:cap(a)])
		if !bytes.Equal(b, laid(of(k))) {
			t.Errorf("sum %d, behind a change of another answer: % x", k, b)
		}
	}
}
