package bundle_test

import (
	"bytes"
	"encoding/binary"
	"hash/crc32"
	"math"
	"math/rand"
	"slices"
	"testing"

	"packsaddle/api"
	"packsaddle/block"
	"packsaddle/bundle"
	"packsaddle/cbor"
	"packsaddle/primary"
)

func end(node, service uint32) api.Endpoint { return api.Endpoint{Node: node, Service: service} }

func up(gate uint32) api.Cross   { return api.Cross{Gate: gate, Up: true} }
func down(gate uint32) api.Cross { return api.Cross{Gate: gate} }

// out is a path on its way out, back one that goes back.
func out(l ...api.Cross) api.Path  { return api.Path{L: l} }
func back(l ...api.Cross) api.Path { return api.Path{Back: true, L: l} }

func number(n uint64) api.Item    { return api.Item{Kind: api.ItemUint, N: n} }
func text(s string) api.Item      { return api.Item{Kind: api.ItemText, S: s} }
func data(b ...byte) api.Item     { return api.Item{Kind: api.ItemBytes, B: b} }
func list(l ...api.Item) api.Item { return api.Item{Kind: api.ItemList, L: l} }
func truth(n uint64) api.Item     { return api.Item{Kind: api.ItemBool, N: n} }

// null is an item by itself.
var null = api.Item{Kind: api.ItemNull}

// coded are an item's bytes, by layer 3.
func coded(x api.Item) []byte {
	b, e := cbor.Encode(x)
	if e != api.OK {
		panic(e)
	}
	return b
}

// plain is layer 6's first example.
func plain() api.Primary {
	return api.Primary{To: end(2, 0), Source: end(1, 0), Time: 5, Seq: 6, Life: 7}
}

// first is the document's example; full has all that a bundle may have.
func first() api.Bundle {
	return api.Bundle{Primary: plain(), Extra: api.Extra{Limit: 9}, Payload: []byte("hi")}
}

func full() api.Bundle {
	p := api.Primary{Flags: 290, Sum: api.SumShort, To: end(300, 5), Source: end(24, 1), Report: end(7, 7), Time: 1 << 40, Seq: 70000, Life: 3600}
	x := api.Extra{Before: end(3, 0), Age: 5, Limit: 9, Count: 1, Path: back(up(5), down(3))}
	return api.Bundle{Primary: p, Extra: x, Sum: api.SumLong, Payload: []byte("hello")}
}

// sums are the kinds that there are.
func sums() []api.SumKind { return []api.SumKind{api.SumNone, api.SumShort, api.SumLong} }

// wrongSums are such as there are not.
func wrongSums() []api.SumKind {
	return []api.SumKind{-1, 3, 4, 255, 256, 257, 1 << 16, math.MaxInt32, math.MaxInt, math.MinInt, math.MinInt + 1}
}

// run are so many crossings, no two of them the same.
func run(n int) []api.Cross {
	var l []api.Cross
	for i := range n {
		l = append(l, api.Cross{Gate: uint32(i/2 + 1), Up: i%2 == 0})
	}
	return l
}

// primaries are such as may be.
func primaries() []api.Primary {
	last := end(1<<32-1, 1<<32-1)
	l := []api.Primary{plain(), full().Primary, {Flags: 290, Sum: api.SumLong, To: last, Source: last, Report: last, Time: api.Forever, Seq: 1<<32 - 1, Life: api.Forever}}
	for _, k := range sums() {
		p := plain()
		p.Sum = k
		l = append(l, p)
	}
	for _, flags := range []uint32{2, 32, 34, 128, 162, 256} {
		p := plain()
		p.Flags = flags
		l = append(l, p)
	}
	return l
}

// extras are such as may be.
func extras() []api.Extra {
	l := []api.Extra{{}, {Limit: 9}, full().Extra, {Before: end(1<<32-1, 1<<32-1), Age: api.Forever, Limit: 255, Count: 255, Path: back(run(64)...)}}
	for _, x := range []api.Endpoint{end(1, 0), end(1, 1), end(24, 256), end(1<<32-1, 0)} {
		l = append(l, api.Extra{Before: x}, api.Extra{Before: x, Age: 77, Limit: 3, Count: 2, Path: out(up(5), down(5))})
	}
	for _, n := range []uint64{1, 24, 1 << 32, api.Forever} {
		l = append(l, api.Extra{Age: n, Limit: 200})
	}
	for _, n := range []uint8{1, 24, 254, 255} {
		l = append(l, api.Extra{Limit: n}, api.Extra{Count: n}, api.Extra{Limit: n, Count: n}, api.Extra{Limit: n, Count: n - 1})
	}
	for _, p := range []api.Path{back(), {L: []api.Cross{}}, out(up(5)), back(run(63)...), out(run(64)...)} {
		l = append(l, api.Extra{Path: p, Limit: 7})
	}
	return l
}

// payloads are such as may be.
func payloads() [][]byte {
	l := [][]byte{nil, {}, []byte("hi"), {0}, {0xff, 0xff}, laid(first()), {0x84, 1, 1, 0, 0x42, 'h', 'i'}}
	for _, n := range []int{23, 24, 255, 256, 5000} {
		l = append(l, bytes.Repeat([]byte{0xa5}, n))
	}
	return l
}

// samples are bundles that may be.
func samples() []api.Bundle {
	l := []api.Bundle{first(), full()}
	for _, p := range primaries() {
		for i, x := range extras() {
			l = append(l, api.Bundle{Primary: p, Extra: x, Sum: api.SumKind((len(l) + i) % 3), Payload: []byte("some")})
		}
	}
	for _, s := range payloads() {
		for _, k := range sums() {
			b := full()
			b.Sum, b.Payload = k, s
			c := first()
			c.Primary.Sum, c.Payload = k, s
			l = append(l, b, c)
		}
	}
	return l
}

// no is a bundle that may not be, and by which part of it.
type no struct {
	part string
	b    api.Bundle
}

// noes are bundles with one part that may not be.
func noes() []no {
	var l []no
	but := func(part string, change func(*api.Bundle)) {
		for _, b := range []api.Bundle{first(), full()} {
			change(&b)
			l = append(l, no{part, b})
		}
	}
	for _, k := range wrongSums() {
		but("sum", func(b *api.Bundle) { b.Sum = k })
		but("primary's sum", func(b *api.Bundle) { b.Primary.Sum = k })
	}
	for _, flags := range []uint32{1, 4, 35, 384, 512, 1<<32 - 1} {
		but("flags", func(b *api.Bundle) { b.Primary.Flags = flags })
	}
	for _, service := range []uint32{0, 1, 1<<32 - 1} {
		but("to", func(b *api.Bundle) { b.Primary.To = end(0, service) })
		but("source", func(b *api.Bundle) { b.Primary.Source = end(0, service) })
		if service > 0 {
			but("report", func(b *api.Bundle) { b.Primary.Report = end(0, service) })
			but("before", func(b *api.Bundle) { b.Extra.Before = end(0, service) })
		}
	}
	for _, n := range []uint64{api.Forever + 1, 1 << 63, math.MaxUint64} {
		but("time", func(b *api.Bundle) { b.Primary.Time = n })
		but("life", func(b *api.Bundle) { b.Primary.Life = n })
		but("age", func(b *api.Bundle) { b.Extra.Age = n })
	}
	for _, p := range []api.Path{out(up(0)), back(down(0)), out(up(5), up(5)), out(run(65)...), back(run(1000)...)} {
		but("path", func(b *api.Bundle) { b.Extra.Path = p })
	}
	but("primary", func(b *api.Bundle) { b.Primary = api.Primary{} })
	l = append(l, no{"all", api.Bundle{}})
	return l
}

// head is that of a major and a number, by another road.
func head(major byte, n uint64) []byte {
	long := binary.BigEndian.AppendUint64(nil, n)
	switch {
	case n < 24:
		return []byte{major<<5 | byte(n)}
	case n < 1<<8:
		return append([]byte{major<<5 | 24}, long[7:]...)
	case n < 1<<16:
		return append([]byte{major<<5 | 25}, long[6:]...)
	case n < 1<<32:
		return append([]byte{major<<5 | 26}, long[4:]...)
	}
	return append([]byte{major<<5 | 27}, long...)
}

// place is an endpoint's bytes.
func place(x api.Endpoint) []byte {
	if x == (api.Endpoint{}) {
		return []byte{0x82, 1, 0}
	}
	return slices.Concat([]byte{0x82, 2, 0x82}, head(0, uint64(x.Node)), head(0, uint64(x.Service)))
}

// truths are the bytes of an ItemBool.
func truths(is bool) []byte {
	if is {
		return []byte{0xf5}
	}
	return []byte{0xf4}
}

// short is the short sum, bit by bit as the document tells it.
func short(b []byte) uint16 {
	w := uint16(0xffff)
	for _, x := range b {
		for i := range 8 {
			unlike := (uint16(x>>i)^w)&1 == 1
			if w >>= 1; unlike {
				w ^= 0x8408
			}
		}
	}
	return ^w
}

// summed are bytes of a list, one behind the other, and its sum's; the head is that of one item more, then.
func summed(k api.SumKind, l ...[]byte) []byte {
	b := slices.Concat(l...)
	switch k {
	case api.SumShort:
		b = append(b, 0x42, 0, 0)
		b[0]++
		binary.BigEndian.PutUint16(b[len(b)-2:], short(b))
	case api.SumLong:
		b = append(b, 0x44, 0, 0, 0, 0)
		b[0]++
		binary.BigEndian.PutUint32(b[len(b)-4:], crc32.Checksum(b, crc32.MakeTable(crc32.Castagnoli)))
	}
	return b
}

// laidPrimary are a primary's bytes, by another road; laidBlock are a block's. They lay such as may not be, too.
func laidPrimary(p api.Primary) []byte {
	return summed(p.Sum, []byte{0x88, 7}, head(0, uint64(p.Flags)), head(0, uint64(p.Sum)), place(p.To), place(p.Source), place(p.Report), []byte{0x82}, head(0, p.Time), head(0, uint64(p.Seq)), head(0, p.Life))
}

func laidBlock(b api.Block) []byte {
	return summed(b.Sum, []byte{0x84}, head(0, b.Type), head(0, b.Number), head(0, uint64(b.Sum)), head(2, uint64(len(b.Data))), b.Data)
}

// blocks are those behind a bundle's primary, by another road.
func blocks(b api.Bundle) []api.Block {
	x := b.Extra
	var l []api.Block
	if x.Before.Node > 0 || x.Before.Service > 0 {
		l = append(l, api.Block{Type: 6, Data: place(x.Before)})
	}
	path := append(head(4, uint64(1+len(x.Path.L))), truths(x.Path.Back)...)
	for _, c := range x.Path.L {
		path = slices.Concat(path, []byte{0x82}, head(0, uint64(c.Gate)), truths(c.Up))
	}
	hops := slices.Concat([]byte{0x82}, head(0, uint64(x.Limit)), head(0, uint64(x.Count)))
	l = append(l, api.Block{Type: 7, Data: head(0, x.Age)}, api.Block{Type: 10, Data: hops}, api.Block{Type: 200, Data: path})
	for i := range l {
		l[i].Number, l[i].Sum = uint64(2+i), b.Sum
	}
	return append(l, api.Block{Type: 1, Number: 1, Sum: b.Sum, Data: b.Payload})
}

// pieces are the bytes of a bundle's blocks, and joined those of a list of such.
func pieces(p api.Primary, l ...api.Block) [][]byte {
	all := [][]byte{laidPrimary(p)}
	for _, b := range l {
		all = append(all, laidBlock(b))
	}
	return all
}

func joined(l ...[]byte) []byte {
	return append(head(4, uint64(len(l))), slices.Concat(l...)...)
}

// laid are a bundle's bytes, by another road. It lays such as may not be, too.
func laid(b api.Bundle) []byte { return joined(pieces(b.Primary, blocks(b)...)...) }

// alike tells whether two bundles are, by another road. nil and empty mean the same.
func alike(a, b api.Bundle) bool {
	x, y := a.Extra, b.Extra
	return a.Primary == b.Primary && x.Before == y.Before && x.Age == y.Age && x.Limit == y.Limit && x.Count == y.Count && x.Path.Back == y.Path.Back && slices.Equal(x.Path.L, y.Path.L) && a.Sum == b.Sum && string(a.Payload) == string(b.Payload)
}

// none tells whether it is the bundle that stands beside an error.
func none(b api.Bundle) bool { return alike(b, api.Bundle{}) }

// brief is a bundle that doesn't fill the page.
func brief(b api.Bundle) api.Bundle {
	b.Payload = b.Payload[:min(len(b.Payload), 60)]
	return b
}

// copied shares no memory with what it was.
func copied(b api.Bundle) api.Bundle {
	b.Payload, b.Extra.Path.L = bytes.Clone(b.Payload), slices.Clone(b.Extra.Path.L)
	return b
}

// anyBundles are so many that may be.
func anyBundles(n int) []api.Bundle {
	chance := rand.New(rand.NewSource(9))
	number := func(bits int) uint64 { return chance.Uint64() >> (64 - bits) >> chance.Intn(bits+1) }
	source := func() api.Endpoint { return end(uint32(max(1, number(32))), uint32(number(32))) }
	flags := []uint32{0, 2, 32, 34, 128, 130, 160, 162, 256, 258, 288, 290}
	l := make([]api.Bundle, n)
	for i := range l {
		b := &l[i]
		b.Primary = api.Primary{Flags: flags[chance.Intn(12)], Sum: api.SumKind(chance.Intn(3)), To: source(), Source: source(), Time: number(62), Seq: uint32(number(32)), Life: number(62)}
		b.Extra = api.Extra{Age: number(62), Limit: uint8(number(8)), Count: uint8(number(8)), Path: api.Path{Back: chance.Intn(2) == 0}}
		if chance.Intn(2) == 0 {
			b.Primary.Report = source()
		}
		if chance.Intn(2) == 0 {
			b.Extra.Before = source()
		}
		for range chance.Intn(6) {
			x := api.Cross{Gate: uint32(max(1, number(32))), Up: chance.Intn(2) == 0}
			if !slices.Contains(b.Extra.Path.L, x) {
				b.Extra.Path.L = append(b.Extra.Path.L, x)
			}
		}
		b.Sum, b.Payload = api.SumKind(chance.Intn(3)), make([]byte, chance.Intn(1<<chance.Intn(10)))
		chance.Read(b.Payload)
	}
	return l
}

// filled is a bundle with so great a payload that it has so many bytes.
func filled(b api.Bundle, n int) api.Bundle {
	b.Payload = make([]byte, 1<<15)
	b.Payload = bytes.Repeat([]byte{0x5a}, n-len(laid(b))+1<<15)
	return b
}

// P9.1

func TestCheck(t *testing.T) {
	for _, b := range append(samples(), anyBundles(1000)...) {
		if e := bundle.Check(b); e != api.OK {
			t.Errorf("Check(%v): %v", brief(b), e)
		}
	}
	for _, x := range noes() {
		if e := bundle.Check(x.b); e != api.ErrArg {
			t.Errorf("%s: Check(%v): %v", x.part, x.b, e)
		}
	}
}

func TestEncode(t *testing.T) {
	want := "\x85" +
		"\x88\x07\x00\x00\x82\x02\x82\x02\x00\x82\x02\x82\x01\x00\x82\x01\x00\x82\x05\x06\x07" +
		"\x84\x07\x02\x00\x41\x00" +
		"\x84\x0a\x03\x00\x43\x82\x09\x00" +
		"\x84\x18\xc8\x04\x00\x42\x81\xf4" +
		"\x84\x01\x01\x00\x42hi"
	if s, e := bundle.Encode(first()); string(s) != want || len(s) != 51 || e != api.OK {
		t.Errorf("the example: % x %v", s, e)
	}
	b := full()
	b.Primary.Sum, b.Sum = api.SumNone, api.SumNone
	want = "\x86" +
		"\x88\x07\x19\x01\x22\x00\x82\x02\x82\x19\x01\x2c\x05\x82\x02\x82\x18\x18\x01\x82\x02\x82\x07\x07\x82\x1b\x00\x00\x01\x00\x00\x00\x00\x00\x1a\x00\x01\x11\x70\x19\x0e\x10" +
		"\x84\x06\x02\x00\x45\x82\x02\x82\x03\x00" +
		"\x84\x07\x03\x00\x41\x05" +
		"\x84\x0a\x04\x00\x43\x82\x09\x01" +
		"\x84\x18\xc8\x05\x00\x48\x83\xf5\x82\x05\xf5\x82\x03\xf4" +
		"\x84\x01\x01\x00\x45hello"
	if s, e := bundle.Encode(b); string(s) != want || e != api.OK {
		t.Errorf("Encode(%v): % x %v", b, s, e)
	}
	for _, b := range append(samples(), anyBundles(2000)...) {
		if s, e := bundle.Encode(b); !bytes.Equal(s, laid(b)) || e != api.OK {
			t.Errorf("Encode(%v): % .200x %v, not % .200x", brief(b), s, e, laid(b))
		}
	}
	for _, x := range noes() {
		if s, e := bundle.Encode(x.b); s != nil || e != api.ErrArg {
			t.Errorf("%s: Encode(%v): % .200x %v", x.part, x.b, s, e)
		}
	}
}

func TestSize(t *testing.T) {
	if n, e := bundle.Size(first()); n != 51 || e != api.OK {
		t.Errorf("the example: %d %v", n, e)
	}
	for _, b := range append(samples(), anyBundles(2000)...) {
		if n, e := bundle.Size(b); n != len(laid(b)) || e != api.OK {
			t.Errorf("Size(%v): %d %v, not %d", brief(b), n, e, len(laid(b)))
		}
	}
	for _, x := range noes() {
		if n, e := bundle.Size(x.b); n != 0 || e != api.ErrArg {
			t.Errorf("%s: Size(%v): %d %v", x.part, x.b, n, e)
		}
	}
}

// sized holds Check, Encode, Size against the error that a bundle is to have.
func sized(t *testing.T, b api.Bundle, want api.Errno) {
	t.Helper()
	e := bundle.Check(b)
	s, f := bundle.Encode(b)
	n, g := bundle.Size(b)
	if e != want || f != want || g != want || n != len(s) {
		t.Errorf("payload of %d bytes: Check %v, Encode %v, Size %d %v, not %v", len(b.Payload), e, f, n, g, want)
	}
	if want == api.OK && !bytes.Equal(s, laid(b)) || want != api.OK && s != nil {
		t.Errorf("payload of %d bytes: % .100x", len(b.Payload), s)
	}
}

func TestLongBundles(t *testing.T) {
	for i, was := range []api.Bundle{first(), full(), {Primary: primaries()[2], Extra: extras()[3], Sum: api.SumShort}} {
		for _, k := range sums() {
			was.Sum = k
			if b := filled(was, api.MaxText-1); len(laid(b)) != api.MaxText-1 {
				t.Fatalf("%d: %d bytes", i, len(laid(b)))
			}
			sized(t, filled(was, api.MaxText-1), api.OK)
			b := filled(was, api.MaxText)
			sized(t, b, api.OK)
			if c, e := bundle.Decode(laid(b)); !alike(c, b) || e != api.OK {
				t.Errorf("Decode of %d bytes: %v", len(laid(b)), e)
			}
			room := len(b.Payload)
			// The last ones are too long for a block, too.
			for _, n := range []int{room + 1, room + 2, 65500, 65520, 65529, 65530, 65536, 65537, 1 << 17, 1 << 24} {
				b.Payload = make([]byte, n)
				sized(t, b, api.ErrLong)
				if n < 1<<18 {
					unread(t, laid(b), api.ErrLong)
				}
			}
		}
	}
	// What may not be counts ahead of what is long.
	for _, x := range noes() {
		for _, n := range []int{65000, 65500, 65536, 1 << 20} {
			x.b.Payload = make([]byte, n)
			sized(t, x.b, api.ErrArg)
		}
	}
}

// unread holds Decode against the error that it is to have.
func unread(t *testing.T, s []byte, want api.Errno) {
	t.Helper()
	if b, e := bundle.Decode(s); !none(b) || e != want {
		t.Errorf("Decode(% .200x): %v %v, not %v", s, brief(b), e, want)
	}
}

func TestDecode(t *testing.T) {
	for _, b := range append(samples(), anyBundles(2000)...) {
		if c, e := bundle.Decode(laid(b)); !alike(b, c) || e != api.OK {
			t.Errorf("Decode(% .200x): %v %v, not %v", laid(b), brief(c), e, brief(b))
		}
	}
}

func TestDecodeRefusesAsLayer3(t *testing.T) {
	for _, b := range append(samples()[:40], anyBundles(40)...) {
		s := laid(b)
		// Too few, too many.
		for i := range s {
			unread(t, s[:i], api.ErrCbor)
		}
		unread(t, append(slices.Clone(s), 0), api.ErrCbor)
		unread(t, append(slices.Clone(s), s...), api.ErrCbor)
		unread(t, append([]byte{0}, s...), api.ErrCbor)
	}
	for _, c := range []struct {
		s    string
		want api.Errno
	}{
		{"", api.ErrCbor}, {"\xff", api.ErrCbor}, {"\x85", api.ErrCbor}, {"\x18\x17", api.ErrCbor}, {"\x80\x00", api.ErrCbor}, {"\x81", api.ErrCbor}, {"\x85\x00\x00\x00\x00", api.ErrCbor}, {"\x85\x00\x00\x00\x00\x00\x00", api.ErrCbor},
		{"\x98\x05\x00\x00\x00\x00\x00", api.ErrCbor}, {"\x9f\x00\x00\x00\x00\x00\xff", api.ErrCbor}, {"\xa5\x00\x00\x00\x00\x00", api.ErrCbor},
		{"\x81\x81\x81\x81\x81\x81\x81\x81\x00", api.ErrDeep}, {"\x85\x00\x00\x00\x00\x81\x81\x81\x81\x81\x81\x81\x00", api.ErrDeep},
		// What is found first counts, and ahead of what is no bundle's.
		{"\x82\x81\x81\x81\x81\x81\x81\x81\x81\x00\xff", api.ErrDeep}, {"\x82\xff\x81\x81\x81\x81\x81\x81\x81\x81\x00", api.ErrCbor}, {"\x85\x00\x00\x00\x00\x62\xff\xff", api.ErrCbor},
	} {
		unread(t, []byte(c.s), c.want)
	}
	// No block's bytes are looked at ahead of all.
	s := laid(full())
	unread(t, append(joined(pieces(plain(), blocks(full())[1:]...)...), 7), api.ErrCbor)
	unread(t, append([]byte{s[0] + 1}, s[1:]...), api.ErrCbor)
	for _, n := range []int{api.MaxText + 1, 1 << 20} {
		unread(t, make([]byte, n), api.ErrLong)
		unread(t, append(laid(first()), make([]byte, n)...), api.ErrLong)
	}
	unread(t, make([]byte, api.MaxText), api.ErrCbor)
}

func TestDecodeRefusesOtherItems(t *testing.T) {
	b := full()
	for _, x := range []api.Item{null, truth(0), truth(1), number(0), number(5), number(6), number(math.MaxUint64), text(""), text("seven"), data(), data(laid(b)...), data(1, 2, 3, 4, 5), list()} {
		unread(t, coded(x), api.ErrBundle)
	}
	// Lists of other lengths, of right blocks or of anything.
	l := pieces(b.Primary, blocks(b)...)
	for n := range 40 {
		if n == 5 || n == 6 {
			continue
		}
		var some [][]byte
		for i := range n {
			some = append(some, l[i%6])
		}
		unread(t, joined(some...), api.ErrBundle)
		unread(t, coded(list(slices.Repeat([]api.Item{null}, n)...)), api.ErrBundle)
		unread(t, coded(list(slices.Repeat([]api.Item{number(7)}, n)...)), api.ErrBundle)
	}
	unread(t, joined(laid(b)), api.ErrBundle)
	unread(t, joined(slices.Repeat([][]byte{{0}}, 60000)...), api.ErrBundle)
}

// wrong is bytes of a block that is refused, and how.
type wrong struct {
	s    []byte
	want api.Errno
}

// noPrimaries are bytes of a primary that is refused; noBlocks are those of a block.
func noPrimaries() []wrong {
	l := []wrong{{laidBlock(api.Block{Type: 1, Number: 1}), api.ErrPrimary}}
	for _, x := range []api.Item{null, truth(1), number(7), text("hi"), data(laidPrimary(plain())...), list(), list(number(7))} {
		l = append(l, wrong{coded(x), api.ErrPrimary})
	}
	for _, x := range noes() {
		if x.b.Primary != first().Primary && x.b.Primary != full().Primary {
			l = append(l, wrong{laidPrimary(x.b.Primary), api.ErrPrimary})
		}
	}
	for _, k := range sums()[1:] {
		p := plain()
		p.Sum = k
		s := laidPrimary(p)
		s[len(s)-1] ^= 1
		l = append(l, wrong{s, api.ErrSum})
		// The width is another one.
		s = append(laidPrimary(p), 0)
		s[len(s)-2-2*int(k)]++
		l = append(l, wrong{s, api.ErrSum})
	}
	return l
}

func noBlocks(b api.Block) []wrong {
	l := []wrong{{laidPrimary(plain()), api.ErrBlock}}
	for _, x := range []api.Item{null, truth(1), number(7), text("hi"), data(laidBlock(b)...), list(), list(number(7))} {
		l = append(l, wrong{coded(x), api.ErrBlock})
	}
	but := func(change func(*api.Block)) {
		c := b
		change(&c)
		l = append(l, wrong{laidBlock(c), api.ErrBlock})
	}
	for _, n := range []uint64{0, 2, 8, 11, 201, 256 + b.Type, math.MaxUint64} {
		but(func(b *api.Block) { b.Type = n })
	}
	for _, n := range []uint64{0, 256, 256 + b.Number, math.MaxUint64} {
		but(func(b *api.Block) { b.Number = n })
	}
	but(func(b *api.Block) { b.Number = 3 - min(b.Number, 2) })
	for _, k := range wrongSums() {
		but(func(b *api.Block) { b.Sum = k })
	}
	if b.Type != api.BlockPayload {
		but(func(b *api.Block) { b.Data = nil })
		but(func(b *api.Block) { b.Data = []byte("\x83\x01\x01\x01") })
		but(func(b *api.Block) { b.Data = append(slices.Clone(b.Data), 0) })
	}
	for _, k := range sums()[1:] {
		b.Sum = k
		s := laidBlock(b)
		s[len(s)-1] ^= 1
		l = append(l, wrong{s, api.ErrSum})
		s = append(laidBlock(b), 0)
		s[len(s)-2-2*int(k)]++
		l = append(l, wrong{s, api.ErrSum})
	}
	return l
}

func TestDecodeRefusesOtherBlocks(t *testing.T) {
	for _, b := range []api.Bundle{first(), full()} {
		l := pieces(b.Primary, blocks(b)...)
		for at := range l {
			wrongs := noPrimaries()
			if at > 0 {
				wrongs = noBlocks(blocks(b)[at-1])
			}
			for _, x := range wrongs {
				m := slices.Clone(l)
				m[at] = x.s
				unread(t, joined(m...), x.want)
			}
		}
	}
}

func TestDecodeRefusesTheFirstBlock(t *testing.T) {
	for _, b := range []api.Bundle{first(), full()} {
		l := pieces(b.Primary, blocks(b)...)
		wrongs := [][]wrong{noPrimaries()}
		for _, x := range blocks(b) {
			wrongs = append(wrongs, noBlocks(x))
		}
		chance := rand.New(rand.NewSource(10))
		for range 3000 {
			// Some are wrong, of which the first counts, whatever is wrong with it.
			m, want := slices.Clone(l), api.OK
			for at := range m {
				if chance.Intn(2) > 0 {
					continue
				}
				x := wrongs[at][chance.Intn(len(wrongs[at]))]
				if m[at] = x.s; want == api.OK {
					want = x.want
				}
			}
			if want != api.OK {
				unread(t, joined(m...), want)
			}
		}
		// It counts ahead of what is no bundle's by its blocks all together.
		for at := range l {
			m := slices.Clone(l)
			m[at] = wrongs[at][0].s
			want := wrongs[at][0].want
			for other := 1; other < len(m); other++ {
				if other != at {
					was := m[other]
					m[other] = laidBlock(api.Block{Type: 1, Number: 1, Data: []byte("hi")})
					unread(t, joined(m...), want)
					m[other] = was
				}
			}
		}
	}
}

// numbered are blocks, of which all but payloads are numbered from 2 on.
func numbered(l ...api.Block) []api.Block {
	l = slices.Clone(l)
	for i := range l {
		if l[i].Type != 1 {
			l[i].Number = uint64(2 + i)
		}
	}
	return l
}

func TestDecodeRefusesOtherOrders(t *testing.T) {
	// Of all lists of four and of five blocks out of five, a few are right.
	b := full()
	b.Payload = []byte{5}
	l := blocks(b)
	right := 0
	for _, n := range []int{4, 5} {
		for i := range int(math.Pow(5, float64(n))) {
			var other []api.Block
			for range n {
				other = append(other, l[i%5])
				i /= 5
			}
			for _, m := range [][]api.Block{other, numbered(other...)} {
				x, e := block.Of(m[:n-1]...)
				s := joined(pieces(b.Primary, m...)...)
				if e != api.OK || m[n-1].Type != 1 {
					unread(t, s, api.ErrBundle)
					continue
				}
				right++
				c, e := bundle.Decode(s)
				if !alike(c, api.Bundle{Primary: b.Primary, Extra: x, Sum: b.Sum, Payload: b.Payload}) || e != api.OK {
					t.Errorf("Decode(% x): %v %v", s, c, e)
				}
			}
		}
	}
	// With all of them, twice: they are numbered so. Without the first, once.
	if right != 3 {
		t.Errorf("%d right orders", right)
	}
	for _, b := range []api.Bundle{first(), full()} {
		// Numbers that may be, but aren't those of its blocks.
		for at := range blocks(b) {
			for _, n := range []uint64{2, 3, 4, 5, 6, 24, 255} {
				l := blocks(b)
				if l[at].Type == 1 || l[at].Number == n {
					continue
				}
				l[at].Number = n
				unread(t, joined(pieces(b.Primary, l...)...), api.ErrBundle)
			}
		}
		// No payload as the last one, or two.
		l := blocks(b)
		last := len(l) - 1
		unread(t, joined(pieces(b.Primary, append(l[:last:last], l[0])...)...), api.ErrBundle)
		unread(t, joined(pieces(b.Primary, append(l[:last-1:last-1], l[last], l[last])...)...), api.ErrBundle)
		unread(t, joined(pieces(b.Primary, append(l[last:], l[:last]...)...)...), api.ErrBundle)
		unread(t, joined(pieces(b.Primary, slices.Repeat(l[last:], len(l))...)...), api.ErrBundle)
	}
}

func TestDecodeRefusesUnlikeSums(t *testing.T) {
	for _, b := range []api.Bundle{first(), full()} {
		// The primary's may be another one than the blocks'.
		for _, k := range sums() {
			for _, own := range sums() {
				b.Primary.Sum, b.Sum = own, k
				if c, e := bundle.Decode(laid(b)); !alike(b, c) || e != api.OK {
					t.Errorf("sums %d, %d: %v %v", own, k, c, e)
				}
			}
		}
		l := blocks(b)
		all := int(math.Pow(3, float64(len(l))))
		for n := range all {
			for i := range l {
				l[i].Sum = api.SumKind(n % 3)
				n /= 3
			}
			b.Sum = l[0].Sum
			s := joined(pieces(b.Primary, l...)...)
			if slices.ContainsFunc(l, func(x api.Block) bool { return x.Sum != b.Sum }) {
				unread(t, s, api.ErrBundle)
			} else if c, e := bundle.Decode(s); !alike(b, c) || e != api.OK {
				t.Errorf("sum %d: %v %v", b.Sum, c, e)
			}
		}
	}
}

// P9.2

func TestName(t *testing.T) {
	if n, e := bundle.Name(first()); n != (api.Name{Source: end(1, 0), Time: 5, Seq: 6}) || e != api.OK {
		t.Errorf("the example: %v %v", n, e)
	}
	l := append(samples(), anyBundles(500)...)
	for _, x := range noes() {
		l = append(l, x.b)
	}
	long := first()
	long.Payload = make([]byte, 1<<17)
	for _, b := range append(l, long) {
		p := b.Primary
		want, e := api.Name{Source: p.Source, Time: p.Time, Seq: p.Seq}, api.OK
		// Of nothing but its name it hangs whether that may be.
		if p.Source.Node == 0 || p.Time > api.Forever {
			want, e = api.Name{}, api.ErrArg
		}
		if n, f := bundle.Name(b); n != want || f != e {
			t.Errorf("Name(%v): %v %v, not %v %v", brief(b), n, f, want, e)
		}
		n, f := bundle.Name(b)
		if m, g := primary.Name(p); n != m || f != g {
			t.Errorf("Name(%v): %v %v, and of its primary %v %v", brief(b), n, f, m, g)
		}
	}
}

// unhanded holds Handed against the error that it is to have.
func unhanded(t *testing.T, b api.Bundle, node uint32, want api.Errno) {
	t.Helper()
	if c, e := bundle.Handed(b, node); !none(c) || e != want {
		t.Errorf("Handed(%v, %d): %v %v, not %v", brief(b), node, brief(c), e, want)
	}
}

func TestHanded(t *testing.T) {
	c, e := bundle.Handed(first(), 4)
	want := first()
	want.Extra.Before, want.Extra.Count = end(4, 0), 1
	if !alike(c, want) || e != api.OK {
		t.Errorf("the example: %v %v", c, e)
	}
	for _, b := range append(samples(), anyBundles(1000)...) {
		for _, node := range []uint32{1, 4, 255, 1<<32 - 1} {
			if b.Extra.Count >= b.Extra.Limit {
				unhanded(t, b, node, api.ErrHops)
				continue
			}
			want := copied(b)
			want.Extra.Before = end(node, 0)
			want.Extra.Count++
			if c, e := bundle.Handed(b, node); !alike(c, want) || e != api.OK {
				t.Errorf("Handed(%v, %d): %v %v", brief(b), node, brief(c), e)
			}
		}
		unhanded(t, b, 0, api.ErrArg)
	}
	for limit := range 256 {
		for count := range 256 {
			b := first()
			b.Extra.Limit, b.Extra.Count = uint8(limit), uint8(count)
			want := api.OK
			if count >= limit {
				want = api.ErrHops
			}
			c, e := bundle.Handed(b, 7)
			if e != want || e == api.OK && int(c.Extra.Count) != count+1 || e != api.OK && !none(c) {
				t.Errorf("limit %d, count %d: %v %v", limit, count, c.Extra, e)
			}
		}
	}
}

func TestHandedOfOthers(t *testing.T) {
	for _, x := range noes() {
		for _, node := range []uint32{0, 1, 4, 1<<32 - 1} {
			unhanded(t, x.b, node, api.ErrArg)
			// What may not be counts ahead of what is long, and of how far it went.
			b := x.b
			b.Extra.Count = b.Extra.Limit
			unhanded(t, b, node, api.ErrArg)
			b.Payload = make([]byte, 1<<16)
			unhanded(t, b, node, api.ErrArg)
		}
	}
	for _, was := range []api.Bundle{first(), full()} {
		b := filled(was, api.MaxText+1)
		unhanded(t, b, 0, api.ErrArg)
		unhanded(t, b, 4, api.ErrLong)
		b.Extra.Count = b.Extra.Limit
		unhanded(t, b, 0, api.ErrArg)
		unhanded(t, b, 4, api.ErrLong)
		b = filled(b, api.MaxText)
		unhanded(t, b, 0, api.ErrArg)
		unhanded(t, b, 4, api.ErrHops)
	}
}

func TestHandedMayBeTooLong(t *testing.T) {
	// It gets a block that it lacked, or a longer one.
	b := filled(first(), api.MaxText)
	c := filled(full(), api.MaxText)
	for _, x := range []api.Bundle{b, c} {
		y, e := bundle.Handed(x, 1<<32-1)
		want := copied(x)
		want.Extra.Before = end(1<<32-1, 0)
		want.Extra.Count++
		if f := bundle.Check(y); !alike(y, want) || e != api.OK || f != api.ErrLong {
			t.Errorf("Handed: %v %v, Check %v", brief(y), e, f)
		}
		unhanded(t, y, 4, api.ErrLong)
	}
	// Or none of these.
	if y, e := bundle.Handed(c, 4); e != api.OK || bundle.Check(y) != api.OK {
		t.Errorf("Handed: %v %v", brief(y), e)
	}
}

func TestAged(t *testing.T) {
	for _, c := range []struct{ age, by, want uint64 }{
		{0, 0, 0}, {0, 5, 5}, {5, 0, 5}, {5, 7, 12}, {1 << 40, 1 << 40, 1 << 41}, {api.Forever - 1, 1, api.Forever}, {api.Forever - 1, 2, api.Forever}, {api.Forever, 0, api.Forever}, {api.Forever, 1, api.Forever}, {0, api.Forever, api.Forever}, {api.Forever, api.Forever, api.Forever}, {1, math.MaxUint64, api.Forever}, {0, api.Forever + 1, api.Forever},
		// An age that may not be.
		{api.Forever + 1, 0, api.Forever}, {math.MaxUint64, 1, api.Forever}, {math.MaxUint64, math.MaxUint64, api.Forever}, {1 << 63, 1 << 63, api.Forever},
	} {
		for _, b := range append(samples()[:60], anyBundles(20)...) {
			b.Extra.Age = c.age
			want := copied(b)
			want.Extra.Age = c.want
			if x := bundle.Aged(b, c.by); !alike(x, want) {
				t.Errorf("Aged(%v, %d): %v, not %v", brief(b), c.by, brief(x), brief(want))
			}
		}
	}
	// Of bundles that may not be, too, nothing else is another one.
	for _, x := range noes() {
		want := copied(x.b)
		want.Extra.Age = min(api.Forever, want.Extra.Age)
		if want.Extra.Age < api.Forever {
			want.Extra.Age += 3
		}
		if y := bundle.Aged(x.b, 3); !alike(y, want) {
			t.Errorf("%s: Aged(%v): %v", x.part, x.b, y)
		}
	}
	long := first()
	long.Payload = make([]byte, 1<<20)
	if x := bundle.Aged(long, 2); len(x.Payload) != 1<<20 || x.Extra.Age != 2 {
		t.Errorf("Aged of a long one: %v", brief(x))
	}
}

func TestDead(t *testing.T) {
	for _, c := range []struct {
		time, life, at uint64
		want           bool
	}{
		{5, 7, 12, true}, {5, 7, 11, false}, {5, 7, 13, true}, {5, 7, 0, false}, {5, 7, 5, false}, {5, 7, api.Forever, true}, {5, 7, math.MaxUint64, true},
		{0, 0, 0, true}, {5, 0, 5, true}, {5, 0, 4, false}, {0, 5, 4, false}, {0, 5, 5, true}, {1 << 40, 1 << 40, 1 << 41, true}, {1 << 40, 1 << 40, 1<<41 - 1, false},
		// It expires Forever, which is at that time.
		{api.Forever, 0, api.Forever - 1, false}, {api.Forever, 0, api.Forever, true}, {0, api.Forever, api.Forever - 1, false}, {7, api.Forever, api.Forever, true}, {api.Forever, api.Forever, api.Forever, true}, {api.Forever, api.Forever, api.Forever - 1, false}, {api.Forever, api.Forever, 0, false}, {api.Forever - 1, 1, api.Forever - 1, false},
		// What is above is no other time.
		{api.Forever, 5, api.Forever + 1, true}, {math.MaxUint64, math.MaxUint64, api.Forever, true}, {math.MaxUint64, math.MaxUint64, api.Forever - 1, false}, {math.MaxUint64, 2, 1, false}, {math.MaxUint64, 2, math.MaxUint64, true},
	} {
		for _, b := range []api.Bundle{first(), full(), {}} {
			b.Primary.Time, b.Primary.Life = c.time, c.life
			// How old it is doesn't matter.
			b.Extra.Age = c.life + 1
			if is := bundle.Dead(b, c.at); is != c.want {
				t.Errorf("Dead(%d and %d, %d): %v", c.time, c.life, c.at, is)
			}
		}
	}
	for _, b := range append(samples(), anyBundles(500)...) {
		at := primary.Expires(b.Primary)
		if !bundle.Dead(b, at) || at > 0 && bundle.Dead(b, at-1) || !bundle.Dead(b, at+1) {
			t.Errorf("Dead(%v) about %d", brief(b), at)
		}
	}
}

// P9.3

// piece is a part, as Parts tells it.
type piece struct {
	kind uint64
	s    string
}

// parts are those that Parts goes over, up to so many.
func parts(most int, b api.Bundle) []piece {
	var all []piece
	for kind, s := range bundle.Parts(b) {
		if all = append(all, piece{kind, string(s)}); len(all) == most {
			break
		}
	}
	return all
}

// wanted are a bundle's parts, by another road.
func wanted(b api.Bundle) []piece {
	all := []piece{{0, string(laidPrimary(b.Primary))}}
	for _, x := range blocks(b) {
		all = append(all, piece{x.Type, string(laidBlock(x))})
	}
	return all
}

func TestParts(t *testing.T) {
	want := []piece{
		{0, "\x88\x07\x00\x00\x82\x02\x82\x02\x00\x82\x02\x82\x01\x00\x82\x01\x00\x82\x05\x06\x07"},
		{7, "\x84\x07\x02\x00\x41\x00"}, {10, "\x84\x0a\x03\x00\x43\x82\x09\x00"}, {200, "\x84\x18\xc8\x04\x00\x42\x81\xf4"},
		{1, "\x84\x01\x01\x00\x42hi"},
	}
	if l := parts(-1, first()); !slices.Equal(l, want) {
		t.Errorf("Parts of the example: %x", l)
	}
	for _, b := range append(samples(), anyBundles(500)...) {
		if l := parts(-1, b); !slices.Equal(l, wanted(b)) {
			t.Errorf("Parts(%v): %.300x, not %.300x", brief(b), l, wanted(b))
		}
	}
	for _, x := range noes() {
		if l := parts(-1, x.b); l != nil {
			t.Errorf("%s: Parts(%v): %x", x.part, x.b, l)
		}
	}
	b := filled(full(), api.MaxText)
	if l := parts(-1, b); !slices.Equal(l, wanted(b)) {
		t.Errorf("Parts of a long one: %d", len(l))
	}
	for _, n := range []int{len(b.Payload) + 1, 65529, 65530, 1 << 20} {
		b.Payload = make([]byte, n)
		if l := parts(-1, b); l != nil {
			t.Errorf("Parts of one that is too long: %d", len(l))
		}
	}
}

func TestPartsIsLeftAndGoneOverAgain(t *testing.T) {
	b := full()
	want := wanted(b)
	all := bundle.Parts(b)
	none := bundle.Parts(api.Bundle{})
	// What it goes over is as it was.
	clear(b.Payload)
	clear(b.Extra.Path.L)
	for most := 1; most <= len(want); most++ {
		var got []piece
		for kind, s := range all {
			if got = append(got, piece{kind, string(s)}); len(got) == most {
				break
			}
			clear(s[:cap(s)])
		}
		if !slices.Equal(got, want[:most]) {
			t.Errorf("left behind %d: %x", most, got)
		}
	}
	// One goes over it while another one does.
	i := 0
	for kind, s := range all {
		var got []piece
		for kind, s := range all {
			got = append(got, piece{kind, string(s)})
			clear(s)
		}
		if (piece{kind, string(s)}) != want[i] || !slices.Equal(got, want) {
			t.Errorf("within another, at %d: %x", kind, got)
		}
		i++
	}
	if i != len(want) {
		t.Errorf("gone over %d", i)
	}
	for range 2 {
		for kind := range none {
			t.Errorf("of none: %d", kind)
		}
	}
}

func TestSame(t *testing.T) {
	was := full()
	but := func(change func(*api.Bundle)) api.Bundle {
		b := copied(was)
		change(&b)
		return b
	}
	if !bundle.Same(was, but(func(*api.Bundle) {})) || !bundle.Same(api.Bundle{}, api.Bundle{Payload: []byte{}, Extra: api.Extra{Path: out([]api.Cross{}...)}}) {
		t.Errorf("Same of a copy: false")
	}
	for i, b := range []api.Bundle{
		but(func(b *api.Bundle) { b.Primary.Flags ^= 2 }), but(func(b *api.Bundle) { b.Primary.Sum = 0 }), but(func(b *api.Bundle) { b.Primary.To.Node++ }), but(func(b *api.Bundle) { b.Primary.To.Service++ }), but(func(b *api.Bundle) { b.Primary.Source.Node++ }), but(func(b *api.Bundle) { b.Primary.Source.Service++ }), but(func(b *api.Bundle) { b.Primary.Report.Node++ }), but(func(b *api.Bundle) { b.Primary.Report.Service++ }), but(func(b *api.Bundle) { b.Primary.Time++ }), but(func(b *api.Bundle) { b.Primary.Seq++ }), but(func(b *api.Bundle) { b.Primary.Life++ }),
		but(func(b *api.Bundle) { b.Extra.Before.Node++ }), but(func(b *api.Bundle) { b.Extra.Before.Service++ }), but(func(b *api.Bundle) { b.Extra.Before = end(0, 0) }), but(func(b *api.Bundle) { b.Extra.Age++ }), but(func(b *api.Bundle) { b.Extra.Limit++ }), but(func(b *api.Bundle) { b.Extra.Count++ }),
		but(func(b *api.Bundle) { b.Extra.Path.Back = false }), but(func(b *api.Bundle) { b.Extra.Path.L = nil }), but(func(b *api.Bundle) { b.Extra.Path.L[1].Gate++ }), but(func(b *api.Bundle) { b.Extra.Path.L[0].Up = false }), but(func(b *api.Bundle) { slices.Reverse(b.Extra.Path.L) }), but(func(b *api.Bundle) { b.Extra.Path.L = append(b.Extra.Path.L, up(9)) }),
		but(func(b *api.Bundle) { b.Sum = api.SumShort }), but(func(b *api.Bundle) { b.Sum += 3 }), but(func(b *api.Bundle) { b.Sum = b.Primary.Sum }),
		but(func(b *api.Bundle) { b.Payload = nil }), but(func(b *api.Bundle) { b.Payload = b.Payload[:4] }), but(func(b *api.Bundle) { b.Payload = append(b.Payload, 0) }), but(func(b *api.Bundle) { b.Payload[4] ^= 1 }), but(func(b *api.Bundle) { b.Payload[0] ^= 128 }), but(func(b *api.Bundle) { slices.Reverse(b.Payload) }),
	} {
		if bundle.Same(was, b) || bundle.Same(b, was) {
			t.Errorf("%d: Same(%v, %v): true", i, was, b)
		}
	}
	l := append(samples()[:150], anyBundles(50)...)
	for _, x := range noes() {
		l = append(l, x.b)
	}
	for _, a := range l {
		for _, b := range l {
			if is := bundle.Same(a, b); is != alike(a, b) {
				t.Errorf("Same(%v, %v): %v", brief(a), brief(b), is)
			}
		}
	}
	// Such as are too long.
	a := first()
	a.Payload = make([]byte, 1<<20)
	b := copied(a)
	if !bundle.Same(a, b) {
		t.Errorf("Same of long ones: false")
	}
	if b.Payload[1<<20-1] = 1; bundle.Same(a, b) {
		t.Errorf("Same of unlike long ones: true")
	}
}

// P9.4

func TestDecodeOfEncode(t *testing.T) {
	seen := map[string]api.Bundle{}
	for _, b := range append(samples(), anyBundles(5000)...) {
		s, e := bundle.Encode(b)
		c, f := bundle.Decode(s)
		if !alike(b, c) || !bundle.Same(b, c) || e != api.OK || f != api.OK {
			t.Errorf("Decode of Encode(%v): %v %v %v", brief(b), brief(c), e, f)
		}
		if other, is := seen[string(s)]; is && !alike(other, b) {
			t.Errorf("%v and %v: % .200x", brief(b), brief(other), s)
		}
		seen[string(s)] = b
	}
}

// goesBack holds Encode of Decode against the bytes, if these are a bundle's.
func goesBack(t *testing.T, s []byte) {
	t.Helper()
	b, e := bundle.Decode(s)
	if e != api.OK {
		if !none(b) || !slices.Contains([]api.Errno{api.ErrLong, api.ErrDeep, api.ErrCbor, api.ErrBundle, api.ErrPrimary, api.ErrBlock, api.ErrSum}, e) {
			t.Errorf("Decode(% x): %v %v", s, b, e)
		}
		return
	}
	if c, f := bundle.Encode(b); !bytes.Equal(c, s) || f != api.OK || !bytes.Equal(laid(b), s) {
		t.Errorf("Encode of Decode(% x): % x %v", s, c, f)
	}
}

func TestEncodeOfDecode(t *testing.T) {
	// Bytes that go astray a little.
	chance := rand.New(rand.NewSource(11))
	for _, b := range append(samples(), anyBundles(10000)...) {
		s := laid(b)
		if len(s) > 1000 {
			continue
		}
		for range 1 + chance.Intn(3) {
			s[chance.Intn(len(s))] ^= byte(1 << chance.Intn(8))
		}
		goesBack(t, s)
	}
}

func FuzzDecode(f *testing.F) {
	for _, b := range samples() {
		f.Add(laid(b))
	}
	f.Fuzz(func(t *testing.T, s []byte) { goesBack(t, s) })
}

func TestPartsAreTheBytes(t *testing.T) {
	for _, b := range append(samples(), anyBundles(2000)...) {
		s, e := bundle.Encode(b)
		var all []byte
		n := 0
		for _, part := range bundle.Parts(b) {
			all = append(all, part...)
			n++
		}
		want := 5
		if b.Extra.Before.Node > 0 {
			want = 6
		}
		if !bytes.Equal(s, append([]byte{0x80 + byte(n)}, all...)) || n != want || e != api.OK {
			t.Errorf("of %v: %d parts, % .200x, and % .200x %v", brief(b), n, all, s, e)
		}
	}
}

func TestPartsAreReadBelow(t *testing.T) {
	for _, b := range append(samples(), anyBundles(300)...) {
		var l []api.Block
		for kind, s := range bundle.Parts(b) {
			if kind == 0 {
				if p, e := primary.Decode(s); p != b.Primary || e != api.OK {
					t.Errorf("the primary of %v: %v %v", brief(b), p, e)
				}
				continue
			}
			x, e := block.Decode(s)
			if l = append(l, x); x.Type != kind || e != api.OK {
				t.Errorf("a block of %v: %d %v", brief(b), kind, e)
			}
		}
		last := len(l) - 1
		x, e := block.Of(l[:last]...)
		if !block.SameExtra(x, b.Extra) || !bytes.Equal(l[last].Data, b.Payload) || e != api.OK {
			t.Errorf("the blocks of %v: %v", brief(b), e)
		}
	}
}

func TestOneBitIsNoBundle(t *testing.T) {
	for _, b := range append(samples(), anyBundles(200)...) {
		s := laid(b)
		if b.Sum == api.SumNone || b.Primary.Sum == api.SumNone || len(s) > 300 {
			continue
		}
		for i := range 8 * len(s) {
			s[i/8] ^= 1 << (i % 8)
			if c, e := bundle.Decode(s); !none(c) || e == api.OK {
				t.Errorf("%v, bit %d: %v %v", b, i, c, e)
			}
			s[i/8] ^= 1 << (i % 8)
		}
	}
}

// The rules that hold everywhere.

// roomy is a bundle whose lists have room behind them, and tells whether that is as it was.
func roomy(b api.Bundle) (api.Bundle, func() bool) {
	payload := append(bytes.Clone(b.Payload), 1, 2, 3, 4, 5, 6, 7, 8)
	path := append(slices.Clone(b.Extra.Path.L), up(77), down(78))
	wasPayload, wasPath := bytes.Clone(payload), slices.Clone(path)
	b.Payload, b.Extra.Path.L = payload[:len(b.Payload)], path[:len(b.Extra.Path.L)]
	return b, func() bool { return bytes.Equal(payload, wasPayload) && slices.Equal(path, wasPath) }
}

func TestBundlesAreNotChangedAndNotKept(t *testing.T) {
	for _, was := range samples() {
		b, as := roomy(was)
		s, _ := bundle.Encode(b)
		bundle.Check(b)
		bundle.Size(b)
		bundle.Name(b)
		bundle.Same(b, b)
		bundle.Dead(b, 5)
		c, e := bundle.Handed(b, 4)
		d := bundle.Aged(b, 5)
		all := bundle.Parts(b)
		for _, s := range all {
			_ = append(s, 9, 9, 9, 9)
		}
		if !as() {
			t.Fatalf("changed: %v", brief(was))
		}
		clear(b.Payload[:cap(b.Payload)])
		clear(b.Extra.Path.L[:cap(b.Extra.Path.L)])
		if !bytes.Equal(s, laid(was)) {
			t.Errorf("Encode, behind a change: % .100x", s)
		}
		want := was
		want.Extra.Before, want.Extra.Count = end(4, 0), was.Extra.Count+1
		if e == api.OK && !alike(c, want) {
			t.Errorf("Handed, behind a change: %v", brief(c))
		}
		want = was
		want.Extra.Age = min(api.Forever, was.Extra.Age+5)
		if !alike(d, want) {
			t.Errorf("Aged, behind a change: %v", brief(d))
		}
		var got []piece
		for kind, s := range all {
			got = append(got, piece{kind, string(s)})
		}
		if !slices.Equal(got, wanted(was)) {
			t.Errorf("Parts, behind a change: %.200x", got)
		}
	}
}

func TestBytesAreNotChangedAndNotKept(t *testing.T) {
	for _, b := range samples() {
		room := append(laid(b), 1, 2, 3, 4, 5, 6, 7, 8)
		own := slices.Clone(room)
		c, e := bundle.Decode(room[:len(room)-8])
		if !bytes.Equal(room, own) {
			t.Errorf("Decode changed % .100x to % .100x", own, room)
		}
		clear(room)
		if !alike(b, c) || e != api.OK {
			t.Errorf("Decode, behind a change: %v %v", brief(c), e)
		}
	}
}

func TestAnswersAreNewMemory(t *testing.T) {
	spoil := func(b api.Bundle) {
		clear(b.Payload[:cap(b.Payload)])
		clear(b.Extra.Path.L[:cap(b.Extra.Path.L)])
	}
	for _, b := range samples() {
		s, _ := bundle.Encode(b)
		other, _ := bundle.Encode(b)
		clear(other[:cap(other)])
		if !bytes.Equal(s, laid(b)) {
			t.Errorf("Encode, behind a change of another answer: % .100x", s)
		}
		c, _ := bundle.Decode(s)
		d, _ := bundle.Decode(s)
		spoil(d)
		if !alike(c, b) {
			t.Errorf("Decode, behind a change of another answer: %v", brief(c))
		}
		c, d = bundle.Aged(b, 0), bundle.Aged(b, 0)
		spoil(d)
		if !alike(c, b) {
			t.Errorf("Aged, behind a change of another answer: %v", brief(c))
		}
		was := copied(b)
		c, e := bundle.Handed(b, 4)
		d, _ = bundle.Handed(b, 4)
		spoil(d)
		was.Extra.Before, was.Extra.Count = end(4, 0), b.Extra.Count+1
		if e == api.OK && !alike(c, was) {
			t.Errorf("Handed, behind a change of another answer: %v", brief(c))
		}
	}
}
