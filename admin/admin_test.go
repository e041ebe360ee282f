package admin_test

import (
	"bytes"
	"encoding/binary"
	"math"
	"math/rand"
	"slices"
	"testing"

	"packsaddle/admin"
	"packsaddle/api"
	"packsaddle/cbor"
	"packsaddle/name"
)

func end(node, service uint32) api.Endpoint { return api.Endpoint{Node: node, Service: service} }

func number(n uint64) api.Item    { return api.Item{Kind: api.ItemUint, N: n} }
func text(s string) api.Item      { return api.Item{Kind: api.ItemText, S: s} }
func data(b ...byte) api.Item     { return api.Item{Kind: api.ItemBytes, B: b} }
func list(l ...api.Item) api.Item { return api.Item{Kind: api.ItemList, L: l} }
func truth(n uint64) api.Item     { return api.Item{Kind: api.ItemBool, N: n} }

// null is an item by itself.
var null = api.Item{Kind: api.ItemNull}

// coded are an item's bytes, by layer 3.
func coded(x api.Item) []byte {
	b, e := cbor.Encode(x)
	if e != api.OK {
		panic(e)
	}
	return b
}

// first is the name of the document's example, last the one whose parts are the greatest.
func first() api.Name { return api.Name{Source: end(1, 0), Time: 2, Seq: 3} }
func last() api.Name {
	return api.Name{Source: end(1<<32-1, 1<<32-1), Time: api.Forever, Seq: 1<<32 - 1}
}

// report, ask, tell, fore, member are a record of each Kind.
func report() api.Record {
	return api.Record{Kind: api.RecReport, Name: api.Name{Source: end(24, 7), Time: 300, Seq: 70000}, What: api.WhatGone, Why: api.WhyHops, At: 4}
}
func ask() api.Record { return api.Record{Kind: api.RecAsk, Number: 5, Node: 6, Region: 7} }
func tell() api.Record {
	return api.Record{Kind: api.RecTell, Number: 5, Node: 6, Region: 7, Yes: true, Until: 8}
}
func fore() api.Record {
	return api.Record{Kind: api.RecFore, Node: 6, From: 3, Until: 9, Level: 2}
}
func member() api.Record {
	return api.Record{Kind: api.RecMember, Node: 6, Region: 7, Number: 5, Yes: true}
}

// each is one record of each Kind.
func each() []api.Record { return []api.Record{report(), ask(), tell(), fore(), member()} }

// Numbers at the edges: of times, and of what is up to MaxNode.
func times() []uint64 {
	return []uint64{0, 1, 23, 24, 255, 256, 65535, 65536, 1<<32 - 1, 1 << 32, api.Forever - 1, api.Forever}
}
func shorts() []uint64 { return []uint64{0, 1, 23, 24, 255, 256, 65535, 65536, 1<<32 - 2, 1<<32 - 1} }

// samples are records that may be.
func samples() []api.Record {
	l := each()
	for _, n := range []api.Name{first(), last(), {Source: end(1, 0)}, {Source: end(1, 1)}} {
		for what := api.WhatGot; what < api.WhatGone; what++ {
			l = append(l, api.Record{Kind: api.RecReport, Name: n, What: what, At: uint64(what)})
		}
		for why := api.WhyExpired; why <= api.WhyQuota; why++ {
			l = append(l, api.Record{Kind: api.RecReport, Name: n, What: api.WhatGone, Why: why})
		}
	}
	for _, at := range times() {
		l = append(l, api.Record{Kind: api.RecReport, Name: first(), What: api.WhatDone, At: at})
		l = append(l, api.Record{Kind: api.RecTell, Node: 1, Region: 1, Until: at})
		l = append(l, api.Record{Kind: api.RecFore, Node: 1, Until: at}, api.Record{Kind: api.RecFore, Node: 1, From: at, Until: at, Level: 3}, api.Record{Kind: api.RecFore, Node: 1, From: at, Until: api.Forever})
	}
	for _, n := range shorts() {
		node := uint32(max(1, n))
		for _, yes := range []bool{false, true} {
			l = append(l, api.Record{Kind: api.RecTell, Number: n, Node: 1, Region: 1, Yes: yes}, api.Record{Kind: api.RecTell, Node: node, Region: 2, Yes: yes}, api.Record{Kind: api.RecTell, Node: 2, Region: node, Yes: yes})
			l = append(l, api.Record{Kind: api.RecMember, Number: n, Node: 1, Region: 1, Yes: yes}, api.Record{Kind: api.RecMember, Node: node, Region: 2, Yes: yes}, api.Record{Kind: api.RecMember, Node: 2, Region: node, Yes: yes})
		}
		l = append(l, api.Record{Kind: api.RecAsk, Number: n, Node: 1, Region: 1}, api.Record{Kind: api.RecAsk, Node: node, Region: 2}, api.Record{Kind: api.RecAsk, Node: 2, Region: node})
		l = append(l, api.Record{Kind: api.RecFore, Node: node})
	}
	for level := range uint8(4) {
		l = append(l, api.Record{Kind: api.RecFore, Node: 9, From: 1, Until: 2, Level: level})
	}
	return l
}

// no is a record that may not be, and why.
type no struct {
	why string
	r   api.Record
}

// others are records that have beside what their Kind names another part, too.
func others() []no {
	var l []no
	add := func(why string, change func(*api.Record), kinds ...api.RecKind) {
		for _, r := range each() {
			if !slices.Contains(kinds, r.Kind) {
				continue
			}
			change(&r)
			l = append(l, no{why, r})
		}
	}
	const a, b, c, d, e = api.RecReport, api.RecAsk, api.RecTell, api.RecFore, api.RecMember
	add("name", func(r *api.Record) { r.Name = first() }, b, c, d, e)
	add("name's node", func(r *api.Record) { r.Name.Source.Node = 1 }, b, c, d, e)
	add("name's service", func(r *api.Record) { r.Name.Source.Service = 1 }, b, c, d, e)
	add("name's time", func(r *api.Record) { r.Name.Time = 1 }, b, c, d, e)
	add("name's number", func(r *api.Record) { r.Name.Seq = 1 }, b, c, d, e)
	for _, n := range []int{1, 4, -1, math.MaxInt, math.MinInt} {
		add("what", func(r *api.Record) { r.What = n }, b, c, d, e)
		add("why", func(r *api.Record) { r.Why = n }, b, c, d, e)
	}
	for _, n := range []uint64{1, 1 << 32, api.Forever, math.MaxUint64} {
		add("at", func(r *api.Record) { r.At = n }, b, c, d, e)
		add("number", func(r *api.Record) { r.Number = n }, a, d)
		add("from", func(r *api.Record) { r.From = n }, a, b, c, e)
		add("until", func(r *api.Record) { r.Until = n }, a, b, e)
	}
	for _, n := range []uint32{1, 1<<32 - 1} {
		add("node", func(r *api.Record) { r.Node = n }, a)
		add("region", func(r *api.Record) { r.Region = n }, a, d)
	}
	add("yes", func(r *api.Record) { r.Yes = true }, a, b, d)
	for _, n := range []uint8{1, 3, 255} {
		add("level", func(r *api.Record) { r.Level = n }, a, b, c, e)
	}
	return l
}

// noes are records that may not be.
func noes() []no {
	l := others()
	add := func(why string, r api.Record, change func(*api.Record)) {
		change(&r)
		l = append(l, no{why, r})
	}
	for _, was := range each() {
		for _, k := range []api.RecKind{0, -1, 6, 7, 255, 256 + was.Kind, 1 << 32, 1<<32 + was.Kind, math.MaxInt, math.MinInt, math.MinInt + was.Kind, -was.Kind} {
			add("kind", was, func(r *api.Record) { r.Kind = k })
		}
		for k := range api.RecKind(6) {
			// What one names may be what another one names, too: it says no then, or until 0.
			both := was.Kind == api.RecAsk && (k == api.RecTell || k == api.RecMember) || was.Kind == api.RecMember && k == api.RecTell
			if k != was.Kind && !both {
				add("another kind's", was, func(r *api.Record) { r.Kind = k })
			}
		}
		add("kind alone", api.Record{}, func(r *api.Record) { r.Kind = was.Kind })
	}
	add("nothing", api.Record{}, func(*api.Record) {})
	for _, n := range []api.Name{{}, {Source: end(0, 1), Time: 2, Seq: 3}, {Time: 2, Seq: 3}, {Source: end(1, 0), Time: api.Forever + 1}, {Source: end(1, 0), Time: math.MaxUint64}} {
		add("name", report(), func(r *api.Record) { r.Name = n })
	}
	for _, n := range []uint64{api.Forever + 1, 1 << 63, math.MaxUint64} {
		add("at", report(), func(r *api.Record) { r.At = n })
		add("until", tell(), func(r *api.Record) { r.Until = n })
		add("from", fore(), func(r *api.Record) { r.From = n })
		add("until", fore(), func(r *api.Record) { r.Until = n })
		add("both", fore(), func(r *api.Record) { r.From, r.Until = n, n })
	}
	for _, from := range []uint64{10, 1 << 40, api.Forever} {
		add("span", fore(), func(r *api.Record) { r.From = from })
		add("span", fore(), func(r *api.Record) { r.From, r.Until = from, from-1 })
		add("span", fore(), func(r *api.Record) { r.From, r.Until = from, 0 })
	}
	for n := 4; n < 256; n++ {
		add("level", fore(), func(r *api.Record) { r.Level = uint8(n) })
	}
	add("node", fore(), func(r *api.Record) { r.Node = 0 })
	for _, was := range []api.Record{ask(), tell(), member()} {
		add("node", was, func(r *api.Record) { r.Node = 0 })
		add("region", was, func(r *api.Record) { r.Region = 0 })
		for _, n := range []uint64{1 << 32, 1<<32 + 5, 1 << 40, api.Forever, 1 << 63, math.MaxUint64} {
			add("number", was, func(r *api.Record) { r.Number = n })
		}
	}
	return l
}

// head is that of a major and a number, by another road.
func head(major byte, n uint64) []byte {
	long := binary.BigEndian.AppendUint64(nil, n)
	switch {
	case n < 24:
		return []byte{major<<5 | byte(n)}
	case n < 1<<8:
		return append([]byte{major<<5 | 24}, long[7:]...)
	case n < 1<<16:
		return append([]byte{major<<5 | 25}, long[6:]...)
	case n < 1<<32:
		return append([]byte{major<<5 | 26}, long[4:]...)
	}
	return append([]byte{major<<5 | 27}, long...)
}

// truths are the bytes of an ItemBool.
func truths(is bool) []byte {
	if is {
		return []byte{0xf5}
	}
	return []byte{0xf4}
}

// titled are a name's bytes.
func titled(n api.Name) []byte {
	return slices.Concat([]byte{0x83, 0x82, 2, 0x82}, head(0, uint64(n.Source.Node)), head(0, uint64(n.Source.Service)), head(0, n.Time), head(0, uint64(n.Seq)))
}

// pieces are the bytes of the items of a record, by another road. They are such of a record that may not be, too.
func pieces(r api.Record) [][]byte {
	l := [][]byte{head(0, uint64(r.Kind))}
	add := func(n uint64) { l = append(l, head(0, n)) }
	switch r.Kind {
	case api.RecReport:
		l = append(l, titled(r.Name))
		add(uint64(r.What))
		add(uint64(r.Why))
		add(r.At)
	case api.RecAsk, api.RecTell:
		add(r.Number)
		add(uint64(r.Node))
		add(uint64(r.Region))
		if r.Kind == api.RecTell {
			l = append(l, truths(r.Yes))
			add(r.Until)
		}
	case api.RecFore:
		add(uint64(r.Node))
		add(r.From)
		add(r.Until)
		add(uint64(r.Level))
	case api.RecMember:
		add(uint64(r.Node))
		add(uint64(r.Region))
		add(r.Number)
		l = append(l, truths(r.Yes))
	}
	return l
}

// joined are the bytes of a list of such, and laid are a record's.
func joined(l ...[]byte) []byte   { return append(head(4, uint64(len(l))), slices.Concat(l...)...) }
func laid(r api.Record) []byte    { return joined(pieces(r)...) }
func between(n, a, b uint64) bool { return a <= n && n <= b }

// may tells whether a record may be, by another road.
func may(r api.Record) bool {
	var all api.Record
	ok := false
	switch r.Kind {
	case api.RecReport:
		all = api.Record{Kind: r.Kind, Name: r.Name, What: r.What, Why: r.Why, At: r.At}
		gone := r.What == 4 && r.Why >= 1 && r.Why <= 5
		ok = (gone || r.What >= 1 && r.What <= 3 && r.Why == 0) && r.Name.Source.Node > 0 && r.Name.Time <= api.Forever && r.At <= api.Forever
	case api.RecAsk:
		all = api.Record{Kind: r.Kind, Number: r.Number, Node: r.Node, Region: r.Region}
		ok = r.Number < 1<<32 && r.Node > 0 && r.Region > 0
	case api.RecTell:
		all = api.Record{Kind: r.Kind, Number: r.Number, Node: r.Node, Region: r.Region, Yes: r.Yes, Until: r.Until}
		ok = r.Number < 1<<32 && r.Node > 0 && r.Region > 0 && r.Until <= api.Forever
	case api.RecFore:
		all = api.Record{Kind: r.Kind, Node: r.Node, From: r.From, Until: r.Until, Level: r.Level}
		ok = r.Node > 0 && r.From <= r.Until && r.Until <= api.Forever && r.Level < 4
	case api.RecMember:
		all = api.Record{Kind: r.Kind, Node: r.Node, Region: r.Region, Number: r.Number, Yes: r.Yes}
		ok = r.Number < 1<<32 && r.Node > 0 && r.Region > 0
	}
	return ok && r == all
}

// anyRecords are so many that may be.
func anyRecords(n int) []api.Record {
	chance := rand.New(rand.NewSource(10))
	some := func(bits int) uint64 { return chance.Uint64() >> (64 - bits) >> chance.Intn(bits+1) }
	node := func() uint32 { return uint32(max(1, some(32))) }
	l := make([]api.Record, n)
	for i := range l {
		r := api.Record{Kind: api.RecKind(1 + chance.Intn(5))}
		yes := chance.Intn(2) == 0
		switch r.Kind {
		case api.RecReport:
			r.Name = api.Name{Source: end(node(), uint32(some(32))), Time: some(62), Seq: uint32(some(32))}
			r.What, r.At = 1+chance.Intn(4), some(62)
			if r.What == api.WhatGone {
				r.Why = 1 + chance.Intn(5)
			}
		case api.RecAsk:
			r.Number, r.Node, r.Region = some(32), node(), node()
		case api.RecTell:
			r.Number, r.Node, r.Region, r.Yes, r.Until = some(32), node(), node(), yes, some(62)
		case api.RecFore:
			r.Node, r.From, r.Until, r.Level = node(), some(62), some(62), uint8(chance.Intn(4))
			r.From, r.Until = min(r.From, r.Until), max(r.From, r.Until)
		case api.RecMember:
			r.Node, r.Region, r.Number, r.Yes = node(), node(), some(32), yes
		}
		l[i] = r
	}
	return l
}

// astray are so many records of which most may not be.
func astray(n int) []api.Record {
	chance := rand.New(rand.NewSource(11))
	edges := append(append(times(), shorts()...), 2, 3, 4, 5, 6, 7, api.Forever+1, 1<<63, math.MaxUint64)
	l := anyRecords(n)
	for i := range l {
		r := &l[i]
		for range 1 + chance.Intn(3) {
			n := edges[chance.Intn(len(edges))]
			switch chance.Intn(14) {
			case 0:
				r.Kind = api.RecKind(n)
			case 1:
				r.Name.Source.Node = uint32(n)
			case 2:
				r.Name.Source.Service = uint32(n)
			case 3:
				r.Name.Time = n
			case 4:
				r.Name.Seq = uint32(n)
			case 5:
				r.What = int(n)
			case 6:
				r.Why = int(n)
			case 7:
				r.At = n
			case 8:
				r.Number = n
			case 9:
				r.Node = uint32(n)
			case 10:
				r.Region = uint32(n)
			case 11:
				r.Yes = !r.Yes
			case 12:
				r.From, r.Until = r.Until, n
			case 13:
				r.Level = uint8(n)
			}
		}
	}
	return l
}

// told holds Check and Encode against whether a record may be.
func told(t *testing.T, r api.Record, ok bool) {
	t.Helper()
	want, own := api.ErrArg, []byte(nil)
	if ok {
		want, own = api.OK, laid(r)
	}
	e := admin.Check(r)
	b, f := admin.Encode(r)
	if e != want || f != want || !bytes.Equal(b, own) || !ok && b != nil {
		t.Errorf("%+v: Check %v, Encode % x %v, not % x %v", r, e, b, f, own, want)
	}
}

// P10.1

func TestCheckAndEncode(t *testing.T) {
	for _, r := range append(samples(), anyRecords(3000)...) {
		if !may(r) {
			t.Fatalf("%+v is no sample", r)
		}
		told(t, r, true)
	}
	for _, x := range noes() {
		if may(x.r) {
			t.Fatalf("%s: %+v may be", x.why, x.r)
		}
		told(t, x.r, false)
	}
	right := 0
	for _, r := range astray(50000) {
		if may(r) {
			right++
		}
		told(t, r, may(r))
	}
	if right < 1000 || right > 40000 {
		t.Errorf("%d of those that went astray may be", right)
	}
}

func TestEncode(t *testing.T) {
	for _, c := range []struct {
		r    api.Record
		want string
	}{
		{ask(), "\x84\x02\x05\x06\x07"},
		{api.Record{Kind: api.RecReport, Name: first(), What: api.WhatGone, Why: api.WhyHops, At: 4}, "\x85\x01\x83\x82\x02\x82\x01\x00\x02\x03\x04\x02\x04"},
		{api.Record{Kind: api.RecReport, Name: first(), What: api.WhatSent, At: api.Forever}, "\x85\x01\x83\x82\x02\x82\x01\x00\x02\x03\x02\x00\x1b\x3f\xff\xff\xff\xff\xff\xff\xff"},
		{tell(), "\x86\x03\x05\x06\x07\xf5\x08"},
		{api.Record{Kind: api.RecTell, Number: 1<<32 - 1, Node: 24, Region: 256, Until: 65536}, "\x86\x03\x1a\xff\xff\xff\xff\x18\x18\x19\x01\x00\xf4\x1a\x00\x01\x00\x00"},
		{fore(), "\x85\x04\x06\x03\x09\x02"},
		{api.Record{Kind: api.RecFore, Node: 1<<32 - 1}, "\x85\x04\x1a\xff\xff\xff\xff\x00\x00\x00"},
		{member(), "\x85\x05\x06\x07\x05\xf5"},
		{api.Record{Kind: api.RecMember, Node: 1, Region: 2}, "\x85\x05\x01\x02\x00\xf4"},
	} {
		if b, e := admin.Encode(c.r); string(b) != c.want || e != api.OK {
			t.Errorf("Encode(%+v): % x %v, not % x", c.r, b, e, c.want)
		}
		if r, e := admin.Decode([]byte(c.want)); r != c.r || e != api.OK {
			t.Errorf("Decode(% x): %+v %v, not %+v", c.want, r, e, c.r)
		}
	}
}

func TestReasons(t *testing.T) {
	// All of what may be reported, and why, and something beyond.
	edges := []int{math.MinInt, math.MinInt + 4, -1 << 32, -256, -5, -4, -3, -2, -1, 0, 1, 2, 3, 4, 5, 6, 7, 8, 255, 256, 257, 260, 1 << 32, 1<<32 + 1, 1<<32 + 4, math.MaxInt}
	right := 0
	for _, what := range edges {
		for _, why := range edges {
			r := report()
			r.What, r.Why = what, why
			ok := what == 4 && why >= 1 && why <= 5 || what >= 1 && what <= 3 && why == 0
			if told(t, r, ok); ok {
				right++
			}
			reported(t, r.Name, what, why, r.At, ok)
		}
	}
	if right != 8 {
		t.Errorf("%d are right", right)
	}
}

// reported holds Report against whether there is such a record.
func reported(t *testing.T, n api.Name, what, why int, at uint64, ok bool) {
	t.Helper()
	want, e := api.Record{}, api.ErrArg
	if ok {
		want, e = api.Record{Kind: api.RecReport, Name: n, What: what, Why: why, At: at}, api.OK
	}
	if r, f := admin.Report(n, what, why, at); r != want || f != e {
		t.Errorf("Report(%v, %d, %d, %d): %+v %v, not %+v %v", n, what, why, at, r, f, want, e)
	}
}

func TestReport(t *testing.T) {
	reported(t, first(), api.WhatGone, api.WhyHops, 4, true)
	reported(t, first(), api.WhatGot, api.WhyHops, 4, false)
	reported(t, first(), api.WhatGone, api.WhyNone, 4, false)
	for _, r := range append(append(samples(), anyRecords(1000)...), astray(5000)...) {
		r = api.Record{Kind: api.RecReport, Name: r.Name, What: r.What, Why: r.Why, At: r.At}
		reported(t, r.Name, r.What, r.Why, r.At, may(r))
	}
	for _, at := range append(times(), api.Forever+1, 1<<63, math.MaxUint64) {
		reported(t, last(), api.WhatGot, api.WhyNone, at, at <= api.Forever)
		reported(t, api.Name{}, api.WhatGot, api.WhyNone, at, false)
	}
}

func TestDecode(t *testing.T) {
	for _, r := range append(samples(), anyRecords(3000)...) {
		if x, e := admin.Decode(laid(r)); x != r || e != api.OK {
			t.Errorf("Decode(% x): %+v %v, not %+v", laid(r), x, e, r)
		}
	}
}

// unread holds Decode against the error that it is to have.
func unread(t *testing.T, b []byte, want api.Errno) {
	t.Helper()
	if r, e := admin.Decode(b); r != (api.Record{}) || e != want {
		t.Errorf("Decode(% .200x): %+v %v, not %v", b, r, e, want)
	}
}

func TestDecodeRefusesAsLayer3(t *testing.T) {
	for _, r := range append(samples(), anyRecords(100)...) {
		b := laid(r)
		for i := range b {
			unread(t, b[:i], api.ErrCbor)
		}
		unread(t, append(slices.Clone(b), 0), api.ErrCbor)
		unread(t, append(slices.Clone(b), b...), api.ErrCbor)
		unread(t, append([]byte{0}, b...), api.ErrCbor)
		unread(t, append([]byte{b[0] + 1}, b[1:]...), api.ErrCbor)
		unread(t, append(slices.Clone(b), make([]byte, api.MaxText+1-len(b))...), api.ErrLong)
	}
	for _, c := range []struct {
		s    string
		want api.Errno
	}{
		{"", api.ErrCbor}, {"\xff", api.ErrCbor}, {"\x84", api.ErrCbor},
		// Heads that are not their numbers'.
		{"\x98\x04\x02\x05\x06\x07", api.ErrCbor}, {"\x84\x18\x02\x05\x06\x07", api.ErrCbor}, {"\x84\x02\x18\x05\x06\x07", api.ErrCbor}, {"\x84\x02\x05\x19\x00\x06\x07", api.ErrCbor}, {"\x9f\x02\x05\x06\x07\xff", api.ErrCbor},
		{"\x84\x22\x05\x06\x07", api.ErrCbor}, {"\xa2\x02\x05\x06\x07", api.ErrCbor}, {"\x84\x02\x05\x06\x62\xff\xff", api.ErrCbor}, {"\x85\x05\x06\x07\x05\xf8\x15", api.ErrCbor},
		{"\x81\x81\x81\x81\x81\x81\x81\x81\x00", api.ErrDeep}, {"\x84\x02\x05\x06\x81\x81\x81\x81\x81\x81\x81\x00", api.ErrDeep},
		// What is found first counts, and ahead of what is no record's.
		{"\x82\x81\x81\x81\x81\x81\x81\x81\x81\x00\xff", api.ErrDeep}, {"\x82\xff\x81\x81\x81\x81\x81\x81\x81\x81\x00", api.ErrCbor}, {"\x84\x00\x00\x00\xff", api.ErrCbor}, {"\x00\x00", api.ErrCbor},
	} {
		unread(t, []byte(c.s), c.want)
	}
	for _, n := range []int{api.MaxText + 1, 1 << 20} {
		unread(t, make([]byte, n), api.ErrLong)
	}
	unread(t, make([]byte, api.MaxText), api.ErrCbor)
	// As long as may be, and no record's.
	b := append(head(2, api.MaxText-3), make([]byte, api.MaxText-3)...)
	unread(t, b, api.ErrRecord)
	unread(t, append(head(2, api.MaxText-2), make([]byte, api.MaxText-2)...), api.ErrLong)
}

// strange are items of all kinds.
func strange() []api.Item {
	return []api.Item{null, truth(0), truth(1), number(0), number(1), number(2), number(5), number(6), number(math.MaxUint64), text(""), text("ask"), text("\x05"), data(), data(1), data(laid(ask())...), list(), list(null), list(number(5)), list(truth(1)), list(number(2), number(5), number(6), number(7))}
}

func TestDecodeRefusesOtherItems(t *testing.T) {
	unread(t, []byte("\x84\x02\x05\x06\x00"), api.ErrRecord)
	for _, x := range strange() {
		if x.Kind != api.ItemList || len(x.L) != 4 {
			unread(t, coded(x), api.ErrRecord)
		}
		unread(t, coded(list(x)), api.ErrRecord)
	}
	// Items more, fewer, none.
	for _, r := range append(samples(), anyRecords(100)...) {
		l := pieces(r)
		for n := range len(l) {
			unread(t, joined(l[:n]...), api.ErrRecord)
			unread(t, joined(l[n+1:]...), api.ErrRecord)
			unread(t, joined(append(l[:n:n], l[n+1:]...)...), api.ErrRecord)
		}
		for _, x := range strange() {
			unread(t, joined(append(l[:len(l):len(l)], coded(x))...), api.ErrRecord)
			unread(t, joined(append(l[:len(l):len(l)], coded(x), coded(x))...), api.ErrRecord)
		}
		unread(t, joined(laid(r)), api.ErrRecord)
		unread(t, joined(append([][]byte{{0}}, l...)...), api.ErrRecord)
	}
	unread(t, joined(slices.Repeat([][]byte{{2}}, 60000)...), api.ErrRecord)
}

func TestDecodeRefusesOtherKinds(t *testing.T) {
	for _, r := range each() {
		l := pieces(r)
		for _, n := range []uint64{0, 6, 7, 24, 255, 256, 256 + uint64(r.Kind), 1<<16 + uint64(r.Kind), 1<<32 + uint64(r.Kind), 1 << 62, 1<<63 - 1, 1 << 63, 1<<63 + uint64(r.Kind), math.MaxUint64, -uint64(r.Kind)} {
			l[0] = head(0, n)
			unread(t, joined(l...), api.ErrRecord)
		}
		for n := range uint64(6) {
			// No one's items are another one's.
			if l[0] = head(0, n); n != uint64(r.Kind) {
				unread(t, joined(l...), api.ErrRecord)
			}
		}
	}
}

func TestDecodeRefusesOtherParts(t *testing.T) {
	for _, r := range each() {
		l := pieces(r)
		for at := range l {
			for _, x := range strange() {
				m := slices.Clone(l)
				m[at] = coded(x)
				// Some are right ones: then they are what is read.
				if y, e := admin.Decode(joined(m...)); e == api.OK {
					if !may(y) || !bytes.Equal(laid(y), joined(m...)) || x.Kind != api.ItemUint && x.Kind != api.ItemBool {
						t.Errorf("Decode(% x): %+v", joined(m...), y)
					}
				} else if e != api.ErrRecord || y != (api.Record{}) {
					t.Errorf("Decode(% x): %+v %v", joined(m...), y, e)
				}
			}
			other := number(1)
			if l[at][0] < 24 {
				other = truth(1)
			}
			m := slices.Clone(l)
			m[at] = coded(other)
			unread(t, joined(m...), api.ErrRecord)
		}
	}
	// Laid as the right ones are.
	for _, x := range noes() {
		if r := x.r; r.Kind >= 1 && r.Kind <= 5 && !slices.ContainsFunc(others(), func(y no) bool { return y.r == r }) && !may(bare(r)) {
			unread(t, laid(r), api.ErrRecord)
		}
	}
}

// bare is a record with what its Kind names, and nothing beside.
func bare(r api.Record) api.Record {
	switch r.Kind {
	case api.RecReport:
		return api.Record{Kind: r.Kind, Name: r.Name, What: r.What, Why: r.Why, At: r.At}
	case api.RecAsk:
		return api.Record{Kind: r.Kind, Number: r.Number, Node: r.Node, Region: r.Region}
	case api.RecTell:
		return api.Record{Kind: r.Kind, Number: r.Number, Node: r.Node, Region: r.Region, Yes: r.Yes, Until: r.Until}
	case api.RecFore:
		return api.Record{Kind: r.Kind, Node: r.Node, From: r.From, Until: r.Until, Level: r.Level}
	case api.RecMember:
		return api.Record{Kind: r.Kind, Node: r.Node, Region: r.Region, Number: r.Number, Yes: r.Yes}
	}
	return api.Record{}
}

func TestDecodeRefusesNumbersWithoutRoom(t *testing.T) {
	// The greatest numbers that the places have, of a record of each Kind.
	bounds := map[api.RecKind][]uint64{
		api.RecReport: {5, 0, 4, 5, api.Forever},
		api.RecAsk:    {5, api.MaxNode, api.MaxNode, api.MaxNode},
		api.RecTell:   {5, api.MaxNode, api.MaxNode, api.MaxNode, 0, api.Forever},
		api.RecFore:   {5, api.MaxNode, 9, api.Forever, 3},
		api.RecMember: {5, api.MaxNode, api.MaxNode, api.MaxNode, 0},
	}
	for _, r := range each() {
		l := pieces(r)
		for at, most := range bounds[r.Kind] {
			if most == 0 {
				continue
			}
			m := slices.Clone(l)
			if at > 0 {
				m[at] = head(0, most)
				if x, e := admin.Decode(joined(m...)); e != api.OK || !may(x) {
					t.Errorf("Decode(% x): %+v %v", joined(m...), x, e)
				}
			}
			for _, n := range []uint64{most + 1, most + 2, 1 << 62, 1<<62 + 2, 1 << 63, 1<<63 + 2, math.MaxUint64, math.MaxUint64 - 3} {
				m[at] = head(0, n)
				unread(t, joined(m...), api.ErrRecord)
			}
			for bit := 8; bit < 64; bit++ {
				if n := 1<<bit + uint64(l[at][0]); n > most {
					m[at] = head(0, n)
					unread(t, joined(m...), api.ErrRecord)
				}
			}
		}
	}
	// Noughts where a node, or a region, or a report is.
	for _, c := range []struct {
		r  api.Record
		at []int
	}{{report(), []int{2, 3}}, {ask(), []int{2, 3}}, {tell(), []int{2, 3}}, {fore(), []int{1}}, {member(), []int{1, 2}}} {
		for _, at := range c.at {
			l := pieces(c.r)
			l[at] = []byte{0}
			unread(t, joined(l...), api.ErrRecord)
		}
	}
}

func TestDecodeRefusesOtherNames(t *testing.T) {
	l := pieces(report())
	pair := func(a, b uint64) api.Item { return list(number(a), number(b)) }
	node := list(number(2), pair(1, 0))
	m := slices.Clone(l)
	if m[1] = coded(list(node, number(2), number(3))); !bytes.Equal(m[1], titled(first())) {
		t.Fatalf("% x", m[1])
	}
	for _, x := range []api.Item{
		node, pair(1, 0), list(), list(node), list(node, number(2)), list(node, number(2), number(3), number(4)), list(number(2), node, number(3)),
		list(pair(1, 0), number(2), number(3)), list(list(number(2), pair(0, 0)), number(2), number(3)), list(list(number(2), pair(0, 1)), number(2), number(3)), list(list(number(2), pair(1<<32, 0)), number(2), number(3)), list(list(number(2), pair(1, 1<<32)), number(2), number(3)),
		list(node, number(api.Forever+1), number(3)), list(node, number(math.MaxUint64), number(3)), list(node, number(2), number(1<<32)), list(node, truth(1), number(3)), list(node, number(2), null), list(node, text("2"), number(3)), text("ipn:1.0 2 3"),
	} {
		m[1] = coded(x)
		unread(t, joined(m...), api.ErrRecord)
	}
	for _, n := range []api.Name{first(), last(), {Source: end(1, 0)}} {
		x, _ := name.NameItem(n)
		m[1] = coded(x)
		want := report()
		want.Name = n
		if r, e := admin.Decode(joined(m...)); r != want || e != api.OK {
			t.Errorf("Decode(% x): %+v %v", joined(m...), r, e)
		}
	}
}

func TestForecastsAreOfSpans(t *testing.T) {
	edges := append(times(), api.Forever+1, 1<<63, math.MaxUint64)
	for _, from := range edges {
		for _, until := range edges {
			r := api.Record{Kind: api.RecFore, Node: 5, From: from, Until: until, Level: 1}
			ok := from <= until && until <= api.Forever
			told(t, r, ok)
			if x, e := admin.Decode(laid(r)); ok && (x != r || e != api.OK) {
				t.Errorf("Decode(% x): %+v %v", laid(r), x, e)
			}
			if !ok {
				unread(t, laid(r), api.ErrRecord)
			}
		}
	}
}

// P10.2

// telling is one of Kinds.
type telling struct {
	kind api.RecKind
	word string
}

func tellings() []telling {
	return []telling{{1, "report"}, {2, "ask"}, {3, "tell"}, {4, "fore"}, {5, "member"}}
}

func TestKinds(t *testing.T) {
	want := tellings()
	all := admin.Kinds()
	for most := 1; most <= len(want)+1; most++ {
		var got []telling
		for kind, word := range all {
			if got = append(got, telling{kind, word}); len(got) == most {
				break
			}
		}
		if !slices.Equal(got, want[:min(most, len(want))]) {
			t.Errorf("left behind %d: %v", most, got)
		}
	}
	// One goes over it while another one does.
	i := 0
	for kind, word := range all {
		var got []telling
		for kind, word := range all {
			got = append(got, telling{kind, word})
		}
		if (telling{kind, word}) != want[i] || !slices.Equal(got, want) {
			t.Errorf("within another, at %d: %v", kind, got)
		}
		i++
	}
	if i != len(want) {
		t.Errorf("gone over %d", i)
	}
	// The ones that it goes over are those that records may have.
	for kind := range admin.Kinds() {
		if !slices.ContainsFunc(each(), func(r api.Record) bool { return r.Kind == kind && admin.Check(r) == api.OK }) {
			t.Errorf("no record of %d", kind)
		}
	}
}

func TestWhy(t *testing.T) {
	want := []string{"none", "expired", "hops", "path", "route", "quota"}
	for n, word := range want {
		if s := admin.Why(n); s != word {
			t.Errorf("Why(%d): %q", n, s)
		}
	}
	if admin.Why(api.WhyNone) != "none" || admin.Why(api.WhyExpired) != "expired" || admin.Why(api.WhyHops) != "hops" || admin.Why(api.WhyPath) != "path" || admin.Why(api.WhyRoute) != "route" || admin.Why(api.WhyQuota) != "quota" {
		t.Errorf("Why of a reason is another one's")
	}
	for _, n := range []int{-1, -2, -5, -6, 6, 7, 8, 255, 256, 261, -256, 1 << 32, 1<<32 + 5, -1 << 32, math.MaxInt, math.MinInt, math.MinInt + 1} {
		if s := admin.Why(n); s != "" {
			t.Errorf("Why(%d): %q", n, s)
		}
	}
}

// P10.3

func TestDecodeOfEncode(t *testing.T) {
	seen := map[string]api.Record{}
	for _, r := range append(append(samples(), anyRecords(20000)...), astray(20000)...) {
		b, e := admin.Encode(r)
		if e != api.OK {
			continue
		}
		if x, f := admin.Decode(b); x != r || f != api.OK {
			t.Errorf("Decode of Encode(%+v): %+v %v", r, x, f)
		}
		if other, is := seen[string(b)]; is && other != r {
			t.Errorf("%+v and %+v: % x", r, other, b)
		}
		seen[string(b)] = r
	}
}

// goesBack holds Encode of Decode against the bytes, if these are a record's.
func goesBack(t *testing.T, b []byte) bool {
	t.Helper()
	r, e := admin.Decode(b)
	if e != api.OK {
		_, below := cbor.Decode(b)
		if below == api.OK {
			below = api.ErrRecord
		}
		if r != (api.Record{}) || e != below {
			t.Errorf("Decode(% x): %+v %v, not %v", b, r, e, below)
		}
		return false
	}
	if c, f := admin.Encode(r); !bytes.Equal(c, b) || f != api.OK || !may(r) || admin.Check(r) != api.OK {
		t.Errorf("Encode of Decode(% x): % x %v", b, c, f)
	}
	return true
}

func TestEncodeOfDecode(t *testing.T) {
	// Bytes that go astray a little.
	chance := rand.New(rand.NewSource(12))
	right, wrong := 0, 0
	for _, r := range append(samples(), anyRecords(50000)...) {
		b := laid(r)
		for range 1 + chance.Intn(2) {
			b[chance.Intn(len(b))] ^= byte(1 << chance.Intn(8))
		}
		if goesBack(t, b) {
			right++
		} else {
			wrong++
		}
	}
	if right < 1000 || wrong < 1000 {
		t.Errorf("%d right, %d wrong", right, wrong)
	}
	// All that is laid of a record, whether that may be or not.
	for _, r := range astray(20000) {
		if ok := goesBack(t, laid(r)); ok != may(bare(r)) {
			t.Errorf("Decode(% x): %v", laid(r), ok)
		}
	}
}

func TestShortBytes(t *testing.T) {
	// All lists of four low bytes: of the Kinds, one alone has so many items.
	right := 0
	for n := range 1 << 20 {
		b := []byte{0x84, byte(n>>15) % 32, byte(n>>10) % 32, byte(n>>5) % 32, byte(n) % 32}
		if _, e := admin.Decode(b); e == api.OK {
			right++
			if b[1] != 2 || b[2] >= 24 || !between(uint64(b[3]), 1, 23) || !between(uint64(b[4]), 1, 23) {
				t.Errorf("Decode(% x): OK", b)
			}
		}
	}
	if right != 24*23*23 {
		t.Errorf("%d are right", right)
	}
}

func FuzzDecode(f *testing.F) {
	for _, r := range samples() {
		f.Add(laid(r))
	}
	f.Fuzz(func(t *testing.T, b []byte) { goesBack(t, b) })
}

// The rules that hold everywhere.

func TestBytesAreNotChangedAndNotKept(t *testing.T) {
	for _, r := range samples() {
		room := append(laid(r), 1, 2, 3, 4, 5, 6, 7, 8)
		own := slices.Clone(room)
		x, e := admin.Decode(room[:len(room)-8])
		if !bytes.Equal(room, own) {
			t.Errorf("Decode changed % x to % x", own, room)
		}
		if clear(room); x != r || e != api.OK {
			t.Errorf("Decode, behind a change: %+v %v", x, e)
		}
	}
}

func TestAnswersAreNewMemory(t *testing.T) {
	for _, r := range samples() {
		b, _ := admin.Encode(r)
		other, _ := admin.Encode(r)
		clear(other[:cap(other)])
		if !bytes.Equal(b, laid(r)) {
			t.Errorf("Encode, behind a change of another answer: % x", b)
		}
	}
}
