package octet_test

import (
	"bytes"
	"math"
	"slices"
	"testing"

	"packsaddle/api"
	"packsaddle/octet"
)

// edges are numbers at the ends of what the widths say, with the widths that fit.
func edges() map[uint64]int {
	return map[uint64]int{
		0: 1, 1: 1, 127: 1, 128: 1, 255: 1,
		256: 2, 257: 2, 65535: 2,
		65536: 4, 1<<24 - 1: 4, 1 << 24: 4, 1<<32 - 1: 4,
		1 << 32: 8, 1<<40 + 3: 8, 1<<56 - 1: 8, 1 << 63: 8, math.MaxUint64: 8,
	}
}

// P1.1

func TestPut(t *testing.T) {
	for _, c := range []struct {
		n     uint64
		width int
		b     string
	}{
		{0, 1, "\x00"}, {255, 1, "\xff"},
		{0, 2, "\x00\x00"}, {258, 2, "\x01\x02"}, {65535, 2, "\xff\xff"},
		{258, 4, "\x00\x00\x01\x02"}, {0x01020304, 4, "\x01\x02\x03\x04"}, {1<<32 - 1, 4, "\xff\xff\xff\xff"},
		{1, 8, "\x00\x00\x00\x00\x00\x00\x00\x01"}, {0x0102030405060708, 8, "\x01\x02\x03\x04\x05\x06\x07\x08"},
		{math.MaxUint64, 8, "\xff\xff\xff\xff\xff\xff\xff\xff"},
	} {
		if b, e := octet.Put(c.n, c.width); string(b) != c.b || e != api.OK {
			t.Errorf("Put(%d, %d): %x %v", c.n, c.width, b, e)
		}
	}
}

func TestPutRefuses(t *testing.T) {
	for _, w := range []int{0, -1, -8, 3, 5, 6, 7, 9, 16, 64, 255, 257, 1 << 32, 1<<32 + 1, math.MaxInt, math.MinInt} {
		for _, n := range []uint64{0, 1, math.MaxUint64} {
			if b, e := octet.Put(n, w); len(b) != 0 || e != api.ErrArg {
				t.Errorf("Put(%d, %d): %x %v", n, w, b, e)
			}
		}
	}
	for _, c := range []struct {
		n     uint64
		width int
	}{{256, 1}, {math.MaxUint64, 1}, {65536, 2}, {1 << 63, 2}, {1 << 32, 4}, {math.MaxUint64, 4}} {
		if b, e := octet.Put(c.n, c.width); len(b) != 0 || e != api.ErrRange {
			t.Errorf("Put(%d, %d): %x %v", c.n, c.width, b, e)
		}
	}
}

func TestGet(t *testing.T) {
	for b, want := range map[string]uint64{
		"\x00": 0, "\xff": 255, "\x01\x02": 258, "\x00\x07": 7, "\xff\x00": 65280,
		"\x01\x02\x03\x04": 0x01020304, "\x00\x00\x00\x00": 0,
		"\x01\x02\x03\x04\x05\x06\x07\x08": 0x0102030405060708,
		"\xff\xff\xff\xff\xff\xff\xff\xff": math.MaxUint64,
	} {
		if n, e := octet.Get([]byte(b)); n != want || e != api.OK {
			t.Errorf("Get(%x): %d %v", b, n, e)
		}
	}
}

func TestGetRefuses(t *testing.T) {
	for _, many := range []int{0, 3, 5, 6, 7, 9, 10, 16, 256, 257, api.MaxText, api.MaxText + 1} {
		if n, e := octet.Get(bytes.Repeat([]byte{1}, many)); n != 0 || e != api.ErrArg {
			t.Errorf("Get of %d bytes: %d %v", many, n, e)
		}
	}
	if n, e := octet.Get(nil); n != 0 || e != api.ErrArg {
		t.Errorf("Get(nil): %d %v", n, e)
	}
}

func TestLeast(t *testing.T) {
	for n, want := range edges() {
		if w := octet.Least(n); w != want {
			t.Errorf("Least(%d): %d", n, w)
		}
	}
}

// P1.2

func TestJoin(t *testing.T) {
	for _, c := range []struct {
		l    []string
		want string
	}{
		{nil, ""}, {[]string{""}, ""}, {[]string{"", "", ""}, ""}, {[]string{"ab"}, "ab"},
		{[]string{"ab", "", "c", "de"}, "abcde"}, {[]string{"", "b", "a", ""}, "ba"},
	} {
		var l [][]byte
		for _, s := range c.l {
			l = append(l, []byte(s))
		}
		if b := octet.Join(l...); string(b) != c.want {
			t.Errorf("Join(%q): %q", c.l, b)
		}
	}
	if b := octet.Join(nil, []byte("x"), nil); string(b) != "x" {
		t.Errorf("Join with nil: %q", b)
	}
}

func TestJoinIsNew(t *testing.T) {
	room := []byte("abcdef")
	a := room[:2]
	one, two := octet.Join(a), octet.Join(a, []byte("xy"))
	if string(room) != "abcdef" {
		t.Errorf("spare room was written: %q", room)
	}
	one[0], two[1] = 'X', 'Y'
	if string(room) != "abcdef" || string(one) != "Xb" || string(two) != "aYxy" {
		t.Errorf("memory is shared: %q %q %q", room, one, two)
	}
	again := octet.Join(a)
	room[0] = 'R'
	if string(again) != "ab" {
		t.Errorf("the argument is kept: %q", again)
	}
}

func TestSplit(t *testing.T) {
	for _, c := range []struct {
		b    string
		at   []int
		want []string
	}{
		{"abcd", []int{1, 3}, []string{"a", "bc", "d"}},
		{"abcd", nil, []string{"abcd"}},
		{"abcd", []int{}, []string{"abcd"}},
		{"abcd", []int{0}, []string{"", "abcd"}},
		{"abcd", []int{4}, []string{"abcd", ""}},
		{"abcd", []int{0, 0, 2, 2, 4, 4}, []string{"", "", "ab", "", "cd", "", ""}},
		{"", nil, []string{""}},
		{"", []int{0, 0}, []string{"", "", ""}},
	} {
		l, e := octet.Split([]byte(c.b), c.at...)
		var got []string
		for _, p := range l {
			got = append(got, string(p))
		}
		if e != api.OK || !slices.Equal(got, c.want) {
			t.Errorf("Split(%q, %v): %q %v", c.b, c.at, got, e)
		}
	}
	if l, e := octet.Split(nil, 0); len(l) != 2 || len(l[0]) != 0 || len(l[1]) != 0 || e != api.OK {
		t.Errorf("Split(nil, 0): %q %v", l, e)
	}
}

func TestSplitRefuses(t *testing.T) {
	for _, at := range [][]int{
		{-1}, {5}, {math.MinInt}, {math.MaxInt}, {2, 1}, {1, 3, 2}, {4, 0}, {0, -1}, {4, 5}, {5, 1}, {1, 2, 3, 4, 3},
	} {
		if l, e := octet.Split([]byte("abcd"), at...); len(l) != 0 || e != api.ErrRange {
			t.Errorf("Split(abcd, %v): %q %v", at, l, e)
		}
	}
	// What lies behind the bytes, in their spare room, is none of them.
	if l, e := octet.Split([]byte("abcd")[:2], 3); len(l) != 0 || e != api.ErrRange {
		t.Errorf("Split(ab, 3): %q %v", l, e)
	}
	if l, e := octet.Split(nil, 1); len(l) != 0 || e != api.ErrRange {
		t.Errorf("Split(nil, 1): %q %v", l, e)
	}
}

func TestSplitIsNew(t *testing.T) {
	b, at := []byte("abcdef"), []int{2, 2, 4}
	l, _ := octet.Split(b[:5], at...)
	other, _ := octet.Split(b[:5], at...)
	for i := range l {
		l[i] = append(l[i], "XYZ"...)
	}
	if string(l[0]) != "abXYZ" || string(l[1]) != "XYZ" || string(l[2]) != "cdXYZ" || string(l[3]) != "eXYZ" {
		t.Errorf("pieces share memory: %q", l)
	}
	l, _ = octet.Split(b[:5], at...)
	l[0][0], l[3][0] = 'A', 'E'
	if string(b) != "abcdef" || !slices.Equal(at, []int{2, 2, 4}) || string(other[0]) != "ab" || string(other[3]) != "e" {
		t.Errorf("memory is shared: %q %v %q", b, at, other)
	}
	b[2] = 'R'
	if string(other[2]) != "cd" {
		t.Errorf("the argument is kept: %q", other)
	}
}

func TestBegins(t *testing.T) {
	for _, c := range []struct {
		b, ahead string
		want     bool
	}{
		{"abc", "ab", true}, {"abc", "abc", true}, {"abc", "", true}, {"", "", true},
		{"abc", "b", false}, {"abc", "ac", false}, {"abc", "abd", false}, {"ab", "abc", false}, {"", "a", false},
		{"aab", "ab", false}, {"\x00", "\x00\x00", false}, {"\x00\x00", "\x00", true},
	} {
		if got := octet.Begins([]byte(c.b), []byte(c.ahead)); got != c.want {
			t.Errorf("Begins(%q, %q): %v", c.b, c.ahead, got)
		}
	}
	if !octet.Begins(nil, nil) || !octet.Begins([]byte{}, nil) || !octet.Begins(nil, []byte{}) || octet.Begins(nil, []byte{0}) {
		t.Error("Begins of nil")
	}
	if octet.Begins([]byte("abc")[:1], []byte("ab")) {
		t.Error("Begins looked at spare room")
	}
}

func TestEach(t *testing.T) {
	all := octet.Each([]byte("abcd"))
	for range 2 {
		var places []int
		var got []byte
		for i, x := range all {
			places, got = append(places, i), append(got, x)
		}
		if !slices.Equal(places, []int{0, 1, 2, 3}) || string(got) != "abcd" {
			t.Errorf("Each: %v %q", places, got)
		}
		calls := 0
		for i := range all {
			calls++
			if i == 1 {
				break
			}
		}
		if calls != 2 {
			t.Errorf("Each that is left: %d", calls)
		}
	}
	for _, b := range [][]byte{nil, {}} {
		for range octet.Each(b) {
			t.Error("Each of no bytes told one")
		}
	}
}

func TestEachWithinEach(t *testing.T) {
	all := octet.Each([]byte("abc"))
	var got []byte
	for i, x := range all {
		for j, y := range all {
			if j > i {
				break
			}
			got = append(got, x, y)
		}
	}
	if string(got) != "aababbcacbcc" {
		t.Errorf("Each within itself: %q", got)
	}
}

func TestEachAsItWas(t *testing.T) {
	b := []byte("abc")
	all := octet.Each(b)
	b[1] = 'X'
	var got []byte
	for i, x := range all {
		b[2] = 'Y'
		got = append(got, x)
		if i == 0 && string(b) != "aXY" {
			t.Errorf("the argument was changed: %q", b)
		}
	}
	if string(got) != "abc" {
		t.Errorf("Each is not as it was: %q", got)
	}
}

// P1.3

func TestGetOfPut(t *testing.T) {
	for n, least := range edges() {
		for _, w := range []int{1, 2, 4, 8} {
			b, e := octet.Put(n, w)
			if w < least {
				if e != api.ErrRange {
					t.Errorf("%d fits %d, below %d: %v", n, w, least, e)
				}
				continue
			}
			if got, f := octet.Get(b); e != api.OK || f != api.OK || got != n || len(b) != w {
				t.Errorf("Get(Put(%d, %d)): %d %v %v", n, w, got, e, f)
			}
		}
	}
}

func TestPutOfGet(t *testing.T) {
	for _, s := range []string{
		"\x00", "\x80", "\x00\x00", "\xfe\x01", "\x00\x00\x00\x09", "\x80\x00\x00\x01",
		"\x00\x00\x00\x00\x00\x00\x00\x00", "\x00\x01\x02\x03\x04\x05\x06\x07", "\x80\xff\x00\xff\x00\xff\x00\x7f",
	} {
		n, e := octet.Get([]byte(s))
		if b, f := octet.Put(n, len(s)); string(b) != s || e != api.OK || f != api.OK {
			t.Errorf("Put(Get(%x)): %x %v %v", s, b, e, f)
		}
	}
}

func TestJoinOfSplit(t *testing.T) {
	b := []byte("packs")
	for i := range len(b) + 1 {
		for j := i; j <= len(b); j++ {
			l, e := octet.Split(b, i, j)
			if e != api.OK || len(l) != 3 || len(l[0]) != i || len(l[1]) != j-i || !bytes.Equal(octet.Join(l...), b) {
				t.Errorf("Join(Split(.., %d, %d)): %q %v", i, j, l, e)
			}
		}
	}
	big := bytes.Repeat([]byte("0123456789abcdef"), api.MaxText/8)
	if l, e := octet.Split(big, 1, api.MaxText, api.MaxText+1); e != api.OK || len(l) != 4 || !bytes.Equal(octet.Join(l...), big) {
		t.Errorf("Join(Split) of many bytes: %d %v", len(l), e)
	}
}
