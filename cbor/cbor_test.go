package cbor_test

import (
	"bytes"
	"encoding/binary"
	"fmt"
	"math"
	"math/rand"
	"reflect"
	"slices"
	"strings"
	"testing"
	"unicode/utf8"

	"packsaddle/api"
	"packsaddle/cbor"
)

// null is an item by itself.
var null = api.Item{Kind: api.ItemNull}

func number(n uint64) api.Item    { return api.Item{Kind: api.ItemUint, N: n} }
func data(b ...byte) api.Item     { return api.Item{Kind: api.ItemBytes, B: b} }
func text(s string) api.Item      { return api.Item{Kind: api.ItemText, S: s} }
func list(l ...api.Item) api.Item { return api.Item{Kind: api.ItemList, L: l} }
func truth(n uint64) api.Item     { return api.Item{Kind: api.ItemBool, N: n} }

// nested is an item in so many lists, one in another.
func nested(x api.Item, lists int) api.Item {
	for range lists {
		x = list(x)
	}
	return x
}

// zeros is a text of so many bytes.
func zeros(n int) string { return strings.Repeat("\x00", n) }

// sample is an item and its bytes.
type sample struct {
	x api.Item
	b string
}

// samples are items of each kind, at each width of a head and on both sides of its bounds.
func samples() []sample {
	return []sample{
		{number(0), "\x00"}, {number(1), "\x01"}, {number(23), "\x17"}, {number(24), "\x18\x18"}, {number(255), "\x18\xff"},
		{number(256), "\x19\x01\x00"}, {number(65535), "\x19\xff\xff"}, {number(65536), "\x1a\x00\x01\x00\x00"},
		{number(1<<32 - 1), "\x1a\xff\xff\xff\xff"}, {number(1 << 32), "\x1b\x00\x00\x00\x01\x00\x00\x00\x00"},
		{number(api.Forever), "\x1b\x3f\xff\xff\xff\xff\xff\xff\xff"}, {number(math.MaxUint64), "\x1b\xff\xff\xff\xff\xff\xff\xff\xff"},
		{data(), "\x40"}, {api.Item{Kind: api.ItemBytes, B: []byte{}}, "\x40"}, {data(0), "\x41\x00"}, {data(1, 2, 255), "\x43\x01\x02\xff"},
		{data([]byte(zeros(23))...), "\x57" + zeros(23)}, {data([]byte(zeros(24))...), "\x58\x18" + zeros(24)},
		{data([]byte(zeros(255))...), "\x58\xff" + zeros(255)}, {data([]byte(zeros(256))...), "\x59\x01\x00" + zeros(256)},
		{data([]byte(zeros(65533))...), "\x59\xff\xfd" + zeros(65533)},
		{text(""), "\x60"}, {text("a"), "\x61a"}, {text("hi"), "\x62hi"}, {text("é"), "\x62é"}, {text("\x00"), "\x61\x00"},
		{text("\uFFFD"), "\x63\xef\xbf\xbd"}, {text("\U0010FFFF"), "\x64\xf4\x8f\xbf\xbf"},
		{text(zeros(23)), "\x77" + zeros(23)}, {text(zeros(24)), "\x78\x18" + zeros(24)},
		{text(zeros(256)), "\x79\x01\x00" + zeros(256)}, {text(zeros(65533)), "\x79\xff\xfd" + zeros(65533)},
		{list(), "\x80"}, {api.Item{Kind: api.ItemList, L: []api.Item{}}, "\x80"}, {list(number(7)), "\x81\x07"},
		{list(data(1), text("hi"), truth(1), null), "\x84\x41\x01\x62hi\xf5\xf6"},
		{list(list(), list(list(), number(24)), null), "\x83\x80\x82\x80\x18\x18\xf6"},
		{list(slices.Repeat([]api.Item{null}, 23)...), "\x97" + strings.Repeat("\xf6", 23)},
		{list(slices.Repeat([]api.Item{null}, 24)...), "\x98\x18" + strings.Repeat("\xf6", 24)},
		{list(slices.Repeat([]api.Item{number(5)}, 256)...), "\x99\x01\x00" + strings.Repeat("\x05", 256)},
		{list(slices.Repeat([]api.Item{list()}, 65533)...), "\x99\xff\xfd" + strings.Repeat("\x80", 65533)},
		{truth(0), "\xf4"}, {truth(1), "\xf5"}, {null, "\xf6"},
		{nested(number(0), 7), strings.Repeat("\x81", 7) + "\x00"}, {nested(list(), 7), strings.Repeat("\x81", 7) + "\x80"},
		{list(number(0), nested(text("a"), 6), number(1)), "\x83\x00" + strings.Repeat("\x81", 6) + "\x61a\x01"},
	}
}

// wrongs are items that may not be, whatever they lie in.
func wrongs() []api.Item {
	return []api.Item{
		{}, {Kind: 7}, {Kind: 8}, {Kind: -1}, {Kind: math.MaxInt}, {Kind: math.MinInt}, {Kind: 257}, {Kind: 1<<32 + 1},
		{N: 1}, {B: []byte{1}}, {S: "a"}, {L: []api.Item{null}},
		{Kind: api.ItemUint, B: []byte{0}}, {Kind: api.ItemUint, S: "a"}, {Kind: api.ItemUint, N: 1, L: []api.Item{number(1)}},
		{Kind: api.ItemBytes, N: 1}, {Kind: api.ItemBytes, B: []byte{1}, N: 1}, {Kind: api.ItemBytes, B: []byte{1}, S: "a"}, {Kind: api.ItemBytes, L: []api.Item{null}},
		{Kind: api.ItemText, S: "a", N: 1}, {Kind: api.ItemText, S: "a", B: []byte("a")}, {Kind: api.ItemText, S: "a", L: []api.Item{null}},
		{Kind: api.ItemList, N: 1}, {Kind: api.ItemList, B: []byte{1}}, {Kind: api.ItemList, S: "a"}, {Kind: api.ItemList, N: 1, L: []api.Item{null}},
		{Kind: api.ItemBool, N: 2}, {Kind: api.ItemBool, N: math.MaxUint64}, {Kind: api.ItemBool, B: []byte{0}}, {Kind: api.ItemBool, N: 1, S: "a"}, {Kind: api.ItemBool, L: []api.Item{{}}},
		{Kind: api.ItemNull, N: 1}, {Kind: api.ItemNull, B: []byte{0}}, {Kind: api.ItemNull, S: "a"}, {Kind: api.ItemNull, L: []api.Item{null}},
		text("\xff"), text("a\x80"), text("\xc3"), text("\xc0\x80"), text("\xed\xa0\x80"), text("\xf4\x90\x80\x80"), text("\uFFFD\xff"), text(zeros(api.MaxText) + "\xff"),
	}
}

// short tells an item without filling the page.
func short(x api.Item) string { return fmt.Sprintf("%.200q", fmt.Sprintf("%+v", x)) }

// refuse holds Check and Encode of an item against the error that it is to have.
func refuse(t *testing.T, x api.Item, want api.Errno) {
	t.Helper()
	if e := cbor.Check(x); e != want {
		t.Errorf("Check %s: %v, not %v", short(x), e, want)
	}
	if b, e := cbor.Encode(x); len(b) != 0 || e != want {
		t.Errorf("Encode %s: %.40x %v, not %v", short(x), b, e, want)
	}
}

// P3.1

func TestEncode(t *testing.T) {
	for _, c := range samples() {
		if e := cbor.Check(c.x); e != api.OK {
			t.Errorf("Check %s: %v", short(c.x), e)
		}
		if b, e := cbor.Encode(c.x); string(b) != c.b || e != api.OK {
			t.Errorf("Encode %s: %.40x %v, not %.40x", short(c.x), b, e, c.b)
		}
	}
}

func TestWrongItemsAreRefused(t *testing.T) {
	for _, x := range wrongs() {
		for _, lists := range []int{0, 1, 7, 8, 9, 100} {
			refuse(t, nested(x, lists), api.ErrArg)
		}
		refuse(t, list(number(1), list(null, x), number(2)), api.ErrArg)
	}
	// A list that isn't one has nothing in it that is looked at.
	refuse(t, api.Item{Kind: api.ItemNull, L: []api.Item{nested(null, 20)}}, api.ErrArg)
}

func TestDeepItemsAreRefused(t *testing.T) {
	for _, x := range []api.Item{number(0), data(), text("a"), list(), truth(0), null} {
		for lists := range 12 {
			want := api.OK
			if lists >= api.MaxDepth {
				want = api.ErrDeep
			}
			if e := cbor.Check(nested(x, lists)); e != want {
				t.Errorf("%v in %d lists: %v", x, lists, e)
			}
		}
		refuse(t, nested(x, 8), api.ErrDeep)
		refuse(t, nested(x, 1000), api.ErrDeep)
		refuse(t, list(null, nested(x, 7), null), api.ErrDeep)
		refuse(t, list(nested(x, 7), nested(x, 3)), api.ErrDeep)
	}
}

func TestLongItemsAreRefused(t *testing.T) {
	for _, c := range []struct {
		x    api.Item
		size int
	}{
		{data(make([]byte, 65533)...), 65536}, {data(make([]byte, 65534)...), 65537}, {data(make([]byte, 65535)...), 65538}, {data(make([]byte, 65536)...), 65541}, {data(make([]byte, 1<<20)...), 1<<20 + 5},
		{text(zeros(65533)), 65536}, {text(zeros(65534)), 65537}, {text(zeros(1 << 20)), 1<<20 + 5},
		{list(slices.Repeat([]api.Item{null}, 65533)...), 65536}, {list(slices.Repeat([]api.Item{null}, 65534)...), 65537}, {list(slices.Repeat([]api.Item{null}, 1<<17)...), 1<<17 + 5},
		{nested(text(zeros(65526)), 7), 65536}, {nested(text(zeros(65527)), 7), 65537},
		{list(text(zeros(65531)), number(23)), 65536}, {list(text(zeros(65531)), number(24)), 65537}, {list(text(zeros(65531)), number(24), null), 65538},
		{list(list(), text(zeros(65531))), 65536}, {list(list(), text(zeros(65531)), null), 65537}, {list(text(zeros(65531)), null, list(), data(1)), 65539},
		{list(text(zeros(32764)), data(make([]byte, 32765)...)), 65536}, {list(text(zeros(32765)), data(make([]byte, 32765)...)), 65537},
		{list(text(zeros(70000)), null, data(1)), 70009}, {list(null, text(zeros(70000)), text(zeros(70000))), 140012},
	} {
		if c.size > api.MaxText {
			refuse(t, c.x, api.ErrLong)
			continue
		}
		if e := cbor.Check(c.x); e != api.OK {
			t.Errorf("Check %s: %v", short(c.x), e)
		}
		if b, e := cbor.Encode(c.x); len(b) != c.size || e != api.OK {
			t.Errorf("Encode %s: %d bytes, not %d: %v", short(c.x), len(b), c.size, e)
		}
	}
}

func TestOrderOfRefusals(t *testing.T) {
	deep, long, wrong := nested(null, 9), text(zeros(70000)), truth(2)
	for _, c := range []struct {
		x    api.Item
		want api.Errno
	}{
		{list(deep, long, wrong), api.ErrArg}, {list(long, deep, wrong), api.ErrArg}, {list(long, wrong), api.ErrArg}, {list(deep, wrong), api.ErrArg},
		{list(wrong, deep, long), api.ErrArg}, {nested(wrong, 9), api.ErrArg}, {nested(text(zeros(70000)+"\xff"), 20), api.ErrArg},
		{list(deep, long), api.ErrDeep}, {list(long, deep), api.ErrDeep}, {nested(long, 8), api.ErrDeep}, {nested(long, 7), api.ErrLong},
		{list(nested(null, 1<<16-1), wrong), api.ErrArg}, {nested(wrong, 1<<16), api.ErrArg}, {nested(null, 1<<16), api.ErrDeep},
	} {
		refuse(t, c.x, c.want)
	}
}

// A list that holds itself is beyond what is promised, but a call still ends.
func TestListsWithoutEnd(t *testing.T) {
	l := make([]api.Item, 3)
	l[0], l[1], l[2] = null, list(l...), api.Item{Kind: api.ItemList, L: l}
	l[1].L = l
	refuse(t, list(l...), api.ErrDeep)
	if cbor.Same(l[1], l[2]) {
		t.Error("lists without an end were gone through to it")
	}
}

// P3.2

func TestDecode(t *testing.T) {
	for _, c := range samples() {
		if x, e := cbor.Decode([]byte(c.b)); !cbor.Same(x, c.x) || e != api.OK {
			t.Errorf("Decode %.40x: %s %v", c.b, short(x), e)
		}
		for _, behind := range []string{"", "\x00", "\xff", "\x81", c.b} {
			b := c.b + behind
			if len(b) > api.MaxText {
				continue
			}
			if x, n, e := cbor.First([]byte(b)); !cbor.Same(x, c.x) || n != len(c.b) || e != api.OK {
				t.Errorf("First %.40x and %.40x: %s %d %v", c.b, behind, short(x), n, e)
			}
			if x, e := cbor.Decode([]byte(b)); behind != "" && (!cbor.Same(x, api.Item{}) || e != api.ErrCbor) {
				t.Errorf("Decode %.40x and %.40x: %s %v", c.b, behind, short(x), e)
			}
		}
	}
	// What lies in spare room is none of the bytes.
	if x, e := cbor.Decode([]byte("\x82\x00\x00\x00")[:2]); !cbor.Same(x, api.Item{}) || e != api.ErrCbor {
		t.Errorf("with spare room: %v %v", x, e)
	}
}

// unread holds Decode and First of bytes against the error that they are to have.
func unread(t *testing.T, b string, want api.Errno) {
	t.Helper()
	if x, e := cbor.Decode([]byte(b)); !cbor.Same(x, api.Item{}) || e != want {
		t.Errorf("Decode %.40x, %d bytes: %s %v, not %v", b, len(b), short(x), e, want)
	}
	if x, n, e := cbor.First([]byte(b)); !cbor.Same(x, api.Item{}) || n != 0 || e != want {
		t.Errorf("First %.40x, %d bytes: %s %d %v, not %v", b, len(b), short(x), n, e, want)
	}
}

func TestWrongBytesAreRefused(t *testing.T) {
	for _, b := range []string{
		"",
		// A number that a shorter head has.
		"\x18\x00", "\x18\x17", "\x19\x00\x18", "\x19\x00\xff", "\x1a\x00\x00\xff\xff", "\x1b\x00\x00\x00\x00\xff\xff\xff\xff", "\x1b\x00\x00\x00\x00\x00\x00\x00\x00",
		"\x58\x01a", "\x58\x00", "\x78\x01a", "\x78\x00", "\x98\x01\x00", "\x98\x00", "\x99\x00\x01\x00", "\x59\x00\x18" + zeros(24),
		// A number that isn't there in full.
		"\x18", "\x19", "\x19\x01", "\x1a\x01\x00\x00", "\x1b\x01\x00\x00\x00\x00\x00\x00", "\x58", "\x79\x01", "\x9a\x00\x01\x00", "\x9b",
		// A width that there is not.
		"\x1c" + zeros(16), "\x1d" + zeros(32), "\x1e" + zeros(64), "\x1f" + zeros(128), "\x1c", "\x1f", "\x5f\x41a\xff", "\x7f\x61a\xff", "\x9f\x00\xff", "\x9f\xff", "\x5c" + zeros(16), "\xfc" + zeros(200), "\xff",
		// Another major.
		"\x20", "\x37", "\x38\x18", "\x3b\xff\xff\xff\xff\xff\xff\xff\xff", "\xa0", "\xa1\x00\x00", "\xb8\x18", "\xc0\x00", "\xc1\x1a\x01\x02\x03\x04", "\xd8\x18\x40",
		// Another item's, or none's.
		"\xe0", "\xf3", "\xf7", "\xf8\x14", "\xf8\x15", "\xf8\x16", "\xf8\x18", "\xf8\x20", "\xf8\xff", "\xf8", "\xf9\x00\x00", "\xf9\x3c\x00", "\xfa\x00\x00\x00\x00", "\xfb\x3f\xf0\x00\x00\x00\x00\x00\x00", "\xfb",
		// Fewer bytes than the head tells.
		"\x41", "\x42a", "\x57" + zeros(22), "\x58\x18" + zeros(23), "\x5b\xff\xff\xff\xff\xff\xff\xff\xff", "\x5b\x80\x00\x00\x00\x00\x00\x00\x00a", "\x5b\x7f\xff\xff\xff\xff\xff\xff\xffa",
		"\x61", "\x62a", "\x78\x18" + zeros(23), "\x7b\xff\xff\xff\xff\xff\xff\xff\xff" + zeros(100), "\x7a\xff\xff\xff\xff",
		"\x81", "\x82\x00", "\x82\x00\x81", "\x83\x80\x80", "\x98\x18" + zeros(23), "\x9b\xff\xff\xff\xff\xff\xff\xff\xff", "\x9b\xff\xff\xff\xff\xff\xff\xff\xff" + zeros(60000), "\x9b\x80\x00\x00\x00\x00\x00\x00\x00\x00",
		// A text that is none.
		"\x61\xff", "\x62\xff\xff", "\x61\x80", "\x61\xc3", "\x62\xc0\x80", "\x63\xed\xa0\x80", "\x64\xf4\x90\x80\x80", "\x62a\xff", "\x64\xef\xbf\xbd\xff",
	} {
		unread(t, b, api.ErrCbor)
		unread(t, "\x82\x00"+b, api.ErrCbor)
		unread(t, strings.Repeat("\x81", 5)+b, api.ErrCbor)
	}
}

func TestDeepBytesAreRefused(t *testing.T) {
	deep := strings.Repeat("\x81", 8)
	for _, b := range []string{
		// An item is too deep ahead of its head, whatever that is, and if there is none.
		deep + "\x00", deep + "\x80", deep, deep + "\xff", deep + "\x18\x17", deep + deep, deep + "\x00\x00",
		strings.Repeat("\x82", 8) + "\x00", strings.Repeat("\x98\x18", 8), "\x82\x00" + deep[1:], "\x83" + deep + "\xff\xff",
		// What is told and lacks would be found later than what is deep.
		"\x9b\xff\xff\xff\xff\xff\xff\xff\xff" + deep, "\x99\x01\x00" + deep + "\x00",
	} {
		unread(t, b, api.ErrDeep)
	}
	for _, b := range []string{
		// What is wrong ahead of what is deep is found first.
		"\x82\xff" + deep, "\x82\x18\x17" + deep, "\x81\x98\x01" + deep, "\x82\x61\xff" + deep, strings.Repeat("\x81", 7) + "\xff",
		strings.Repeat("\x81", 7) + "\x98\x01\x00", strings.Repeat("\x81", 7), "\x9b\x00\x00\x00\x00\x00\x00\x00\x01" + deep,
	} {
		unread(t, b, api.ErrCbor)
	}
	// What is too deep behind an item is just behind it.
	if x, n, e := cbor.First([]byte("\x00" + deep + "\x00")); !cbor.Same(x, number(0)) || n != 1 || e != api.OK {
		t.Errorf("First: %v %d %v", x, n, e)
	}
	if x, e := cbor.Decode([]byte("\x00" + deep + "\x00")); !cbor.Same(x, api.Item{}) || e != api.ErrCbor {
		t.Errorf("Decode: %v %v", x, e)
	}
	// Only one in another is deep: one behind another isn't.
	if x, e := cbor.Decode([]byte("\x88" + strings.Repeat("\x81\x80", 8))); e != api.OK || len(x.L) != 8 {
		t.Errorf("side by side: %v %v", x, e)
	}
}

func TestLongBytesAreRefused(t *testing.T) {
	for _, b := range []string{zeros(api.MaxText + 1), "\xff" + zeros(api.MaxText), strings.Repeat("\x81", api.MaxText+1), "\x59\xff\xfe" + zeros(65534), zeros(1 << 20)} {
		unread(t, b, api.ErrLong)
	}
	if x, e := cbor.Decode([]byte(zeros(api.MaxText))); !cbor.Same(x, api.Item{}) || e != api.ErrCbor {
		t.Errorf("Decode at the bound: %v %v", x, e)
	}
	if x, n, e := cbor.First([]byte(zeros(api.MaxText))); !cbor.Same(x, number(0)) || n != 1 || e != api.OK {
		t.Errorf("First at the bound: %v %d %v", x, n, e)
	}
}

// P3.3

func TestSame(t *testing.T) {
	all := append(wrongs(), text("b"), number(2), data(2), data(1, 2), list(number(8)), list(number(7), number(7)), list(list(number(7))))
	for _, c := range samples() {
		// Some samples are the one ahead of them, but for nil and empty.
		if !reflect.DeepEqual(bare(c.x), bare(all[len(all)-1])) {
			all = append(all, c.x)
		}
	}
	for i, a := range all {
		for j, b := range all {
			if got := cbor.Same(a, b); got != (i == j) {
				t.Errorf("Same(%s, %s): %v", short(a), short(b), got)
			}
		}
		// A twin that has memory of its own.
		if !cbor.Same(a, twin(a)) || !cbor.Same(list(null, a), list(null, twin(a))) {
			t.Errorf("Same of %s and its twin: false", short(a))
		}
		if cbor.Same(list(a, number(99)), list(number(99), a)) || cbor.Same(list(a), list(a, a)) || cbor.Same(a, list(a)) {
			t.Errorf("lists of %s are the same", short(a))
		}
	}
	if !cbor.Same(nested(null, 1<<16), nested(null, 1<<16)) || cbor.Same(nested(null, 1<<16), nested(truth(0), 1<<16)) {
		t.Error("Same of many levels")
	}
	for _, k := range []api.ItemKind{api.ItemNone, api.ItemBytes, api.ItemList, 99} {
		if !cbor.Same(api.Item{Kind: k}, api.Item{Kind: k, B: []byte{}, L: []api.Item{}}) || !cbor.Same(list(api.Item{Kind: k, B: []byte{}, L: []api.Item{}}), list(api.Item{Kind: k})) {
			t.Errorf("kind %d: nil and empty are not the same", k)
		}
	}
}

// twin is an item that shares no memory with another one.
func twin(x api.Item) api.Item {
	y := api.Item{Kind: x.Kind, N: x.N, B: bytes.Clone(x.B), S: strings.Clone(x.S)}
	for _, z := range x.L {
		y.L = append(y.L, twin(z))
	}
	return y
}

// bare is an item of which all that is empty is nil.
func bare(x api.Item) api.Item {
	y := twin(x)
	if len(x.B) == 0 {
		y.B = nil
	}
	for i := range y.L {
		y.L[i] = bare(y.L[i])
	}
	return y
}

func TestRunes(t *testing.T) {
	for _, c := range []struct {
		s  string
		n  int
		ok bool
	}{
		{"", 0, true}, {"a", 1, true}, {"\x00", 1, true}, {"hi", 2, true}, {"é", 1, true}, {"aé中\U0001F600", 4, true}, {"\uFFFD", 1, true}, {"\uFFFD\uFFFD", 2, true}, {"\U0010FFFF", 1, true}, {"e\u0301", 2, true},
		{"\xff", 1, false}, {"\x80", 1, false}, {"\xff\xfe", 2, false}, {"a\xffb", 3, false}, {"\xc3", 1, false}, {"\xc3a", 2, false}, {"\xe4\xb8", 2, false}, {"\xf0\x9f\x98", 3, false}, {"\xf0\x9f\x98a", 4, false},
		{"\xc0\x80", 2, false}, {"\xe0\x80\x80", 3, false}, {"\xed\xa0\x80", 3, false}, {"\xf4\x90\x80\x80", 4, false}, {"\uFFFD\xff", 2, false}, {"\xff\uFFFD", 2, false}, {"\xef\xbf", 2, false}, {"é\x80é", 3, false},
		{zeros(api.MaxText + 1), api.MaxText + 1, true}, {strings.Repeat("é", 1<<17), 1 << 17, true}, {strings.Repeat("\xff", 1<<17), 1 << 17, false},
	} {
		if n, ok := cbor.Runes(c.s); n != c.n || ok != c.ok {
			t.Errorf("Runes(%.40q): %d %v, not %d %v", c.s, n, ok, c.n, c.ok)
		}
	}
}

func TestRunesByAnotherRoad(t *testing.T) {
	r := rand.New(rand.NewSource(1))
	for range 20000 {
		b := make([]byte, r.Intn(12))
		for i := range b {
			// Bytes of which runes are often begun, and seldom ended.
			b[i] = []byte{'a', 0x80, 0xbf, 0xbd, 0xc3, 0xe4, 0xed, 0xef, 0xf0, 0xf4, 0x90, byte(r.Intn(256))}[r.Intn(12)]
		}
		s := string(b)
		if n, ok := cbor.Runes(s); n != utf8.RuneCountInString(s) || ok != utf8.ValidString(s) {
			t.Errorf("Runes(%q): %d %v", s, n, ok)
		}
	}
}

func TestUints(t *testing.T) {
	for _, c := range []struct {
		x    api.Item
		want []uint64
	}{
		{list(), nil}, {list(number(0)), []uint64{0}}, {list(number(3), number(1), number(3)), []uint64{3, 1, 3}},
		{list(number(math.MaxUint64), null, data(1), number(1), text("a"), truth(1), list(number(9)), number(2)), []uint64{math.MaxUint64, 1, 2}},
		{list(truth(1), null, list(number(1))), nil},
		{number(5), nil}, {null, nil}, {api.Item{}, nil}, {truth(1), nil}, {data(1), nil}, {text("a"), nil},
		// Items that may not be: a list that isn't one, numbers that have more than that.
		{api.Item{Kind: api.ItemNull, L: []api.Item{number(1)}}, nil}, {api.Item{Kind: api.ItemUint, N: 1, L: []api.Item{number(1)}}, nil}, {api.Item{L: []api.Item{number(1)}}, nil}, {api.Item{Kind: 9, L: []api.Item{number(1)}}, nil},
		{api.Item{Kind: api.ItemList, N: 3, L: []api.Item{{Kind: api.ItemUint, N: 1, S: "a"}, {N: 2}, {Kind: 9, N: 3}}}, []uint64{1}},
	} {
		all := cbor.Uints(c.x)
		for range 2 {
			if got := slices.Collect(all); !slices.Equal(got, c.want) {
				t.Errorf("Uints %v: %v, not %v", c.x, got, c.want)
			}
		}
	}
}

func TestUintsMayBeLeft(t *testing.T) {
	all := cbor.Uints(list(number(1), null, number(2), number(3), null))
	for stop := range 5 {
		var got []uint64
		for n := range all {
			if len(got) == stop {
				break
			}
			got = append(got, n)
		}
		if want := []uint64{1, 2, 3}[:min(stop, 3)]; !slices.Equal(got, want) {
			t.Errorf("left at %d: %v", stop, got)
		}
		// Again, and one within the other.
		var pairs []uint64
		for a := range all {
			for b := range all {
				pairs = append(pairs, 10*a+b)
			}
		}
		if !slices.Equal(pairs, []uint64{11, 12, 13, 21, 22, 23, 31, 32, 33}) {
			t.Errorf("again: %v", pairs)
		}
	}
}

func TestUintsAreThoseOfThen(t *testing.T) {
	x := list(number(1), number(2), null)
	all := cbor.Uints(x)
	x.L[0], x.L[2] = null, number(9)
	if got := slices.Collect(all); !slices.Equal(got, []uint64{1, 2}) {
		t.Errorf("the list changed: %v", got)
	}
	for range all {
		x.L[1] = number(7)
	}
	if got := slices.Collect(all); !slices.Equal(got, []uint64{1, 2}) {
		t.Errorf("the list changed meanwhile: %v", got)
	}
}

// P3.4

func TestDecodeOfEncode(t *testing.T) {
	for _, c := range samples() {
		b, _ := cbor.Encode(c.x)
		if x, e := cbor.Decode(b); !cbor.Same(x, c.x) || !reflect.DeepEqual(bare(x), bare(c.x)) || e != api.OK {
			t.Errorf("Decode of Encode %s: %s %v", short(c.x), short(x), e)
		}
	}
}

func TestDecodeOfEncodeOfAny(t *testing.T) {
	r := rand.New(rand.NewSource(3))
	for range 20000 {
		x := anyItem(r, 1+r.Intn(api.MaxDepth))
		b, e := cbor.Encode(x)
		if string(b) != laid(x) || e != api.OK || cbor.Check(x) != api.OK {
			t.Errorf("Encode %s: %.40x, not %.40x: %v", short(x), b, laid(x), e)
		}
		if y, e := cbor.Decode(b); !reflect.DeepEqual(bare(x), bare(y)) || e != api.OK {
			t.Errorf("Decode of Encode %s: %s %v", short(x), short(y), e)
		}
	}
}

// anyItem is some item that may be, of at most some depth.
func anyItem(r *rand.Rand, depth int) api.Item {
	switch k := r.Intn(9); {
	case k < 2:
		return number(r.Uint64() >> r.Intn(64))
	case k == 2:
		return data([]byte(zeros(r.Intn(30)))...)
	case k == 3:
		return text(strings.Repeat("é", r.Intn(20)))
	case k == 4:
		return truth(uint64(r.Intn(2)))
	case k == 5 || depth == 1:
		return []api.Item{null, list()}[r.Intn(2)]
	}
	x := list()
	for range r.Intn(4) {
		x.L = append(x.L, anyItem(r, depth-1))
	}
	return x
}

// laid is an item's bytes by another road.
func laid(x api.Item) string {
	switch x.Kind {
	case api.ItemUint:
		return begun(0, x.N)
	case api.ItemBytes:
		return begun(2, uint64(len(x.B))) + string(x.B)
	case api.ItemText:
		return begun(3, uint64(len(x.S))) + x.S
	case api.ItemBool:
		return string([]byte{0xf4 + byte(x.N)})
	case api.ItemNull:
		return "\xf6"
	}
	s := begun(4, uint64(len(x.L)))
	for _, y := range x.L {
		s += laid(y)
	}
	return s
}

// begun is a head by another road.
func begun(major byte, n uint64) string {
	m := major << 5
	switch {
	case n < 24:
		return string([]byte{m | byte(n)})
	case n <= math.MaxUint8:
		return string([]byte{m | 24, byte(n)})
	case n <= math.MaxUint16:
		return string(binary.BigEndian.AppendUint16([]byte{m | 25}, uint16(n)))
	case n <= math.MaxUint32:
		return string(binary.BigEndian.AppendUint32([]byte{m | 26}, uint32(n)))
	}
	return string(binary.BigEndian.AppendUint64([]byte{m | 27}, n))
}

// readable holds bytes against what Decode and First tell of them: what can be read is an item's bytes, the only ones, and begins no other one's.
func readable(t *testing.T, b []byte) {
	t.Helper()
	x, n, e := cbor.First(b)
	y, f := cbor.Decode(b)
	if e != api.OK {
		if f != e || n != 0 || !cbor.Same(x, api.Item{}) || !cbor.Same(y, api.Item{}) {
			t.Errorf("%x: %v %d %v, %v %v", b, x, n, e, y, f)
		}
		return
	}
	if own, g := cbor.Encode(x); g != api.OK || !bytes.Equal(own, b[:n]) {
		t.Errorf("Encode of First %x: %x %v", b, own, g)
	}
	if n == len(b) && (f != api.OK || !cbor.Same(x, y)) || n < len(b) && (f != api.ErrCbor || !cbor.Same(y, api.Item{})) {
		t.Errorf("%x: %v %d, %v %v", b, x, n, y, f)
	}
	for i := range n {
		if z, _, g := cbor.First(b[:i]); g != api.ErrCbor || !cbor.Same(z, api.Item{}) {
			t.Errorf("the first %d of %x: %v %v", i, b, z, g)
		}
	}
}

func TestEncodeOfDecode(t *testing.T) {
	for i := range 256 {
		readable(t, []byte{byte(i)})
		for j := range 256 {
			readable(t, []byte{byte(i), byte(j)})
			for _, k := range []byte{0, 1, 0x17, 0x18, 0x40, 0x61, 0x80, 0x81, 0xf4, 0xff} {
				readable(t, []byte{byte(i), byte(j), k})
			}
		}
	}
	r := rand.New(rand.NewSource(4))
	for range 100000 {
		b := make([]byte, r.Intn(24))
		for i := range b {
			b[i] = []byte{0, 0x17, 0x18, 0x19, 0x1b, 0x41, 0x58, 0x61, 0x80, 0x81, 0x82, 0x83, 0x98, 0xf4, 0xf6, byte(r.Intn(256))}[r.Intn(16)]
		}
		readable(t, b)
	}
}

func TestOneByteElse(t *testing.T) {
	for _, c := range samples() {
		if len(c.b) > 300 {
			continue
		}
		for i := range c.b {
			for bit := range 8 {
				b := []byte(c.b)
				b[i] ^= 1 << bit
				if x, e := cbor.Decode(b); e == api.OK && cbor.Same(x, c.x) {
					t.Errorf("%.40x and %.40x are the same item", b, c.b)
				}
			}
		}
	}
}

// Rules that hold everywhere

func TestNothingHandedInIsChanged(t *testing.T) {
	b := []byte("\x84\x41\x01\x62hi\xf5\xf6 spare")
	cbor.Decode(b[:9])
	cbor.First(b[:9])
	cbor.Decode(b)
	if string(b) != "\x84\x41\x01\x62hi\xf5\xf6 spare" {
		t.Errorf("the bytes are %x", b)
	}
	room := []byte("abcdef")
	items := []api.Item{{Kind: api.ItemBytes, B: room[:3]}, number(1), text("spare")}
	x := api.Item{Kind: api.ItemList, L: items[:2]}
	for range 2 {
		cbor.Check(x)
		cbor.Encode(x)
		cbor.Same(x, x)
		for range cbor.Uints(x) {
		}
		if string(room) != "abcdef" || !cbor.Same(items[2], text("spare")) || !cbor.Same(x, list(data('a', 'b', 'c'), number(1))) {
			t.Errorf("the item is %v, %q %v", x, room, items)
		}
	}
}

func TestAnswersAreNewMemory(t *testing.T) {
	in := []byte("\x83\x42ab\x42cd\x82\x43efg\x80")
	x, _ := cbor.Decode(in)
	y, _, _ := cbor.First(in)
	want := list(data('a', 'b'), data('c', 'd'), list(data('e', 'f', 'g'), list()))
	for i := range in {
		in[i] = 0xff
	}
	if !cbor.Same(x, want) || !cbor.Same(y, want) {
		t.Errorf("the answers changed with the bytes: %v %v", x, y)
	}
	// What is put behind one is upon no other one.
	x.L[0].B = append(x.L[0].B, "zzzzzzzz"...)
	x.L[0].B[0] = 'z'
	x.L[2].L = append(x.L[2].L, null, null, null)
	if !cbor.Same(list(x.L[1:]...), list(data('c', 'd'), list(data('e', 'f', 'g'), list(), null, null, null))) || !cbor.Same(y, want) {
		t.Errorf("answers share memory: %v %v", x, y)
	}
	a, _ := cbor.Encode(want)
	b, _ := cbor.Encode(want)
	a[2], a[3] = 'z', 'z'
	if string(want.L[0].B) != "ab" || b[2] != 'a' || b[3] != 'b' {
		t.Errorf("answers share memory: %x %x %v", a, b, want)
	}
	one := data('h', 'i')
	c, _ := cbor.Encode(one)
	one.B[0] = 'z'
	if string(c) != "\x42hi" {
		t.Errorf("the answer changed with the item: %x", c)
	}
}
