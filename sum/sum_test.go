package sum_test

import (
	"bytes"
	"hash/crc32"
	"math"
	"slices"
	"testing"

	"packsaddle/api"
	"packsaddle/octet"
	"packsaddle/sum"
)

// kinds are those that there are, with how many bytes their sums have.
func kinds() map[api.SumKind]int {
	return map[api.SumKind]int{api.SumNone: 0, api.SumShort: 2, api.SumLong: 4}
}

// strangers are kinds that there are not.
func strangers() []api.SumKind {
	return []api.SumKind{-1, 3, 4, -2, 255, 256, 257, 1 << 16, 1<<32 + 1, math.MaxInt, math.MinInt, math.MinInt + 1}
}

// samples are bytes of many sorts: none, one, all alike, all unlike, as many as a text has, more.
func samples() [][]byte {
	rise := make([]byte, 256)
	for i := range rise {
		rise[i] = byte(i)
	}
	return [][]byte{
		nil, {}, {0}, {1}, {0x80}, {0xff}, {0, 0}, {0xff, 0xff}, {0xff, 0xff, 0xff, 0xff}, {0, 0, 0, 0},
		[]byte("a"), []byte("hi"), []byte("123456789"), rise,
		bytes.Repeat([]byte{0xff}, 1000), bytes.Repeat(rise, api.MaxText/256), bytes.Repeat([]byte{7}, api.MaxText+1),
	}
}

// mirror turns the lowest bits about.
func mirror(n uint32, bits int) uint32 {
	var m uint32
	for range bits {
		m, n = m<<1|n&1, n>>1
	}
	return m
}

// divided is the short sum by another road: from the highest bit on, with all that is turned about.
func divided(b []byte) uint32 {
	w := uint32(0xffff)
	for _, x := range b {
		w ^= mirror(uint32(x), 8) << 8
		for range 8 {
			w <<= 1
			if w&0x10000 != 0 {
				w ^= 0x11021
			}
		}
	}
	return mirror(w, 16) ^ 0xffff
}

// P2.1

func TestOf(t *testing.T) {
	for _, c := range []struct {
		k    api.SumKind
		b    string
		want uint32
	}{
		{api.SumShort, "", 0}, {api.SumShort, "123456789", 0x906e}, {api.SumShort, "\x00", 0xf078}, {api.SumShort, "\xff", 0xff00},
		{api.SumLong, "", 0}, {api.SumLong, "123456789", 0xe3069283}, {api.SumLong, "a", 0xc1d04330},
		{api.SumLong, string(make([]byte, 32)), 0x8a9136aa}, {api.SumLong, string(bytes.Repeat([]byte{0xff}, 32)), 0x62a8ab43},
		{api.SumNone, "", 0}, {api.SumNone, "123456789", 0}, {api.SumNone, "\xff\xff", 0},
	} {
		if n, e := sum.Of(c.k, []byte(c.b)); n != c.want || e != api.OK {
			t.Errorf("Of(%d, %x): %x %v", c.k, c.b, n, e)
		}
	}
}

func TestOfByAnotherRoad(t *testing.T) {
	for _, b := range samples() {
		if n, e := sum.Of(api.SumShort, b); n != divided(b) || e != api.OK {
			t.Errorf("short, of %d bytes: %x, not %x: %v", len(b), n, divided(b), e)
		}
		want := crc32.Checksum(b, crc32.MakeTable(crc32.Castagnoli))
		if n, e := sum.Of(api.SumLong, b); n != want || e != api.OK {
			t.Errorf("long, of %d bytes: %x, not %x: %v", len(b), n, want, e)
		}
		if n, e := sum.Of(api.SumNone, b); n != 0 || e != api.OK {
			t.Errorf("none, of %d bytes: %x: %v", len(b), n, e)
		}
	}
}

func TestOfLists(t *testing.T) {
	whole := []byte("packsaddle")
	for k := range kinds() {
		want, _ := sum.Of(k, whole)
		for i := range len(whole) + 1 {
			for j := i; j <= len(whole); j++ {
				if n, e := sum.Of(k, whole[:i], nil, whole[i:j], []byte{}, whole[j:]); n != want || e != api.OK {
					t.Errorf("Of(%d) cut at %d and %d: %x, not %x: %v", k, i, j, n, want, e)
				}
			}
		}
		for _, l := range [][][]byte{nil, {}, {nil}, {{}, nil, {}}} {
			if n, e := sum.Of(k, l...); n != 0 || e != api.OK {
				t.Errorf("Of(%d) of no bytes: %x %v", k, n, e)
			}
		}
	}
	// What lies in spare room is none of the bytes.
	if n, e := sum.Of(api.SumShort, []byte("123456789abc")[:9]); n != 0x906e || e != api.OK {
		t.Errorf("Of with spare room: %x %v", n, e)
	}
}

func TestWidth(t *testing.T) {
	for k, want := range kinds() {
		if n, e := sum.Width(k); n != want || e != api.OK {
			t.Errorf("Width(%d): %d %v", k, n, e)
		}
	}
}

func TestStrangersAreRefused(t *testing.T) {
	for _, k := range strangers() {
		for _, b := range samples() {
			if n, e := sum.Of(k, b, b); n != 0 || e != api.ErrArg {
				t.Errorf("Of(%d): %x %v", k, n, e)
			}
			if s, e := sum.Seal(k, b); len(s) != 0 || e != api.ErrArg {
				t.Errorf("Seal(%d): %x %v", k, s, e)
			}
			if o, e := sum.Open(k, b); len(o) != 0 || e != api.ErrArg {
				t.Errorf("Open(%d): %x %v", k, o, e)
			}
		}
		if n, e := sum.Of(k); n != 0 || e != api.ErrArg {
			t.Errorf("Of(%d) of no list: %x %v", k, n, e)
		}
		if n, e := sum.Width(k); n != 0 || e != api.ErrArg {
			t.Errorf("Width(%d): %d %v", k, n, e)
		}
	}
}

// P2.2

func TestSeal(t *testing.T) {
	for _, c := range []struct {
		k       api.SumKind
		b, want string
	}{
		{api.SumShort, "123456789", "123456789\x90\x6e"}, {api.SumShort, "", "\x00\x00"},
		{api.SumShort, "\x00", "\x00\xf0\x78"}, {api.SumShort, "\xff", "\xff\xff\x00"},
		{api.SumLong, "123456789", "123456789\xe3\x06\x92\x83"}, {api.SumLong, "", "\x00\x00\x00\x00"},
		{api.SumLong, "a", "a\xc1\xd0\x43\x30"},
		{api.SumNone, "123456789", "123456789"}, {api.SumNone, "", ""},
	} {
		if s, e := sum.Seal(c.k, []byte(c.b)); string(s) != c.want || e != api.OK {
			t.Errorf("Seal(%d, %x): %x %v", c.k, c.b, s, e)
		}
		if o, e := sum.Open(c.k, []byte(c.want)); string(o) != c.b || e != api.OK {
			t.Errorf("Open(%d, %x): %x %v", c.k, c.want, o, e)
		}
	}
}

func TestSealIsTheSumBehind(t *testing.T) {
	for k, width := range kinds() {
		for _, b := range samples() {
			s, e := sum.Seal(k, b)
			if e != api.OK || len(s) != len(b)+width || !bytes.Equal(s[:len(b)], b) {
				t.Errorf("Seal(%d) of %d bytes: %d bytes, %v", k, len(b), len(s), e)
				continue
			}
			n, _ := sum.Of(k, b)
			want, _ := octet.Put(uint64(n), width)
			if !bytes.Equal(s[len(b):], want) {
				t.Errorf("Seal(%d) of %d bytes ends %x, not %x", k, len(b), s[len(b):], want)
			}
		}
	}
}

func TestOpenRefuses(t *testing.T) {
	for _, c := range []struct {
		k api.SumKind
		b string
	}{
		{api.SumShort, ""}, {api.SumShort, "\x00"}, {api.SumShort, "hi"}, {api.SumShort, "\x00\x01"}, {api.SumShort, "\xff\xff"},
		{api.SumShort, "123456789\x6e\x90"}, {api.SumShort, "123456789\x90"}, {api.SumShort, "23456789\x90\x6e"},
		{api.SumShort, "\x90\x6e123456789"}, {api.SumShort, "123456789\x90\x6e\x00"}, {api.SumShort, "123456789\xe3\x06\x92\x83"},
		{api.SumLong, ""}, {api.SumLong, "a"}, {api.SumLong, "ab"}, {api.SumLong, "abc"}, {api.SumLong, "\x00\x00\x00"},
		{api.SumLong, "abcd"}, {api.SumLong, "\xff\xff\xff\xff"}, {api.SumLong, "123456789\x83\x92\x06\xe3"},
		{api.SumLong, "123456789\x90\x6e"}, {api.SumLong, "123456789\xe3\x06\x92\x83\x00"},
	} {
		if o, e := sum.Open(c.k, []byte(c.b)); len(o) != 0 || e != api.ErrSum {
			t.Errorf("Open(%d, %x): %x %v", c.k, c.b, o, e)
		}
	}
	for _, k := range []api.SumKind{api.SumShort, api.SumLong} {
		if o, e := sum.Open(k, nil); len(o) != 0 || e != api.ErrSum {
			t.Errorf("Open(%d, nil): %x %v", k, o, e)
		}
	}
	// A sum that lies in spare room is not behind the bytes.
	if o, e := sum.Open(api.SumShort, []byte("123456789\x90\x6e")[:9]); len(o) != 0 || e != api.ErrSum {
		t.Errorf("Open looked at spare room: %x %v", o, e)
	}
}

func TestAnswersAreNew(t *testing.T) {
	for k, width := range kinds() {
		room := []byte("abcdefghij")
		s, _ := sum.Seal(k, room[:4])
		other, _ := sum.Seal(k, room[:4])
		if string(room) != "abcdefghij" {
			t.Errorf("Seal(%d) wrote spare room: %q", k, room)
		}
		sealed := slices.Clone(s)
		o, _ := sum.Open(k, s)
		again, _ := sum.Open(k, s)
		o[0] = 'X'
		// What is put behind the answer must not be written upon the sum.
		_ = append(o, "YYYYYY"...)
		if !bytes.Equal(s, sealed) || string(again) != "abcd" {
			t.Errorf("Open(%d) shares memory: %q %q", k, s, again)
		}
		s[1], room[2] = 'Z', 'R'
		if !bytes.Equal(other, sealed) || string(again) != "abcd" || string(room) != "abRdefghij" || len(other) != 4+width {
			t.Errorf("Seal(%d) shares memory: %q %q %q", k, other, again, room)
		}
	}
}

func TestArgumentsStay(t *testing.T) {
	for k := range kinds() {
		a, b := []byte("packs"), []byte("addle")
		l := [][]byte{a, nil, b}
		sum.Of(k, l...)
		sum.Open(k, a)
		if string(a) != "packs" || string(b) != "addle" || len(l) != 3 || l[1] != nil || string(l[0]) != "packs" || string(l[2]) != "addle" {
			t.Errorf("%d: an argument was changed: %q", k, l)
		}
	}
}

// P2.3

func TestOpenOfSeal(t *testing.T) {
	for k := range kinds() {
		for _, b := range samples() {
			s, e := sum.Seal(k, b)
			if o, f := sum.Open(k, s); e != api.OK || f != api.OK || !bytes.Equal(o, b) {
				t.Errorf("Open(Seal(%d)) of %d bytes: %d bytes, %v %v", k, len(b), len(o), e, f)
			}
		}
	}
}

func TestOpenOfSealTwice(t *testing.T) {
	for k := range kinds() {
		for l := range kinds() {
			inner, _ := sum.Seal(k, []byte("packsaddle"))
			outer, _ := sum.Seal(l, inner)
			o, e := sum.Open(l, outer)
			p, f := sum.Open(k, o)
			if e != api.OK || f != api.OK || string(p) != "packsaddle" {
				t.Errorf("sealed by %d, then by %d: %q %v %v", k, l, p, e, f)
			}
		}
	}
}

func TestOneBitIsNotOpened(t *testing.T) {
	for k := range kinds() {
		for _, b := range [][]byte{nil, {0}, {0xff}, []byte("hi"), []byte("123456789"), bytes.Repeat([]byte("packs"), 50)} {
			s, _ := sum.Seal(k, b)
			for i := range 8 * len(s) {
				s[i/8] ^= 1 << (i % 8)
				o, e := sum.Open(k, s)
				if k == api.SumNone && (e != api.OK || !bytes.Equal(o, s)) {
					t.Errorf("none, of %d bytes, bit %d: %x %v", len(b), i, o, e)
				}
				if k != api.SumNone && (e != api.ErrSum || len(o) != 0) {
					t.Errorf("%d, of %d bytes, bit %d: %x %v", k, len(b), i, o, e)
				}
				s[i/8] ^= 1 << (i % 8)
			}
		}
	}
}

func TestOneBitOfMany(t *testing.T) {
	b := bytes.Repeat([]byte("0123456789abcdef"), api.MaxText/16)
	for k, width := range kinds() {
		s, _ := sum.Seal(k, b)
		for _, i := range []int{0, 7, 8, 4 * len(b), 8*len(b) - 1, 8 * len(b), 8*len(s) - 1} {
			if width == 0 {
				break
			}
			s[i/8] ^= 1 << (i % 8)
			if o, e := sum.Open(k, s); e != api.ErrSum || len(o) != 0 {
				t.Errorf("%d, bit %d: %d bytes, %v", k, i, len(o), e)
			}
			s[i/8] ^= 1 << (i % 8)
		}
	}
}
