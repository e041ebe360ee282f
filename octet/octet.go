// Package octet is layer 1: see shared/doc/01-octet.md.
package octet

import (
	"iter"
	"slices"

	"packsaddle/api"
)

// wide is a width: how many bytes say a number.
type wide int

// number is one under way to its bytes.
type number struct {
	wide
	n uint64
}

// widths are those that there are. They rise, so that the first one that is found is the least one.
func widths() [4]wide { return [4]wide{1, 2, 4, 8} }

// first is the first one that is such.
func first[T any](l [4]T, such func(T) bool) (T, bool) {
	for _, x := range l {
		if such(x) {
			return x, true
		}
	}
	var none T
	return none, false
}

// right tells whether there is such a width.
func (w wide) right() bool {
	_, ok := first(widths(), func(x wide) bool { return x == w })
	return ok
}

// says tells whether a number fits. Nothing is left of any number that is moved by 64 bits, so all fit 8 bytes.
func (w wide) says(n uint64) bool { return n>>(8*w) == 0 }

// bytes are the number's, the highest ahead.
func (x number) bytes() []byte {
	b := make([]byte, x.wide)
	for i := range b {
		b[len(b)-1-i] = byte(x.n >> (8 * i))
	}
	return b
}

// each goes over bytes as they are when it gets to them: for those that nobody changes meanwhile.
func each(b []byte) iter.Seq2[int, byte] {
	return func(yield func(int, byte) bool) {
		for i, x := range b {
			if !yield(i, x) {
				return
			}
		}
	}
}

// Put tells a number's bytes.
func Put(n uint64, width int) ([]byte, api.Errno) {
	x, e := number{wide(width), n}, api.ErrArg
	if !x.right() {
		goto refused
	}
	if !x.says(x.n) {
		e = api.ErrRange
		goto refused
	}
	return x.bytes(), api.OK
refused:
	return nil, e
}

// Get tells the number of bytes.
func Get(b []byte) (uint64, api.Errno) {
	var n uint64
	if !wide(len(b)).right() {
		goto refused
	}
	for _, x := range each(b) {
		n = n<<8 | uint64(x)
	}
	return n, api.OK
refused:
	return 0, api.ErrArg
}

// Least tells a number's least width.
func Least(n uint64) int {
	w, _ := first(widths(), func(w wide) bool { return w.says(n) })
	return int(w)
}

// Join is all, one behind the other.
func Join(l ...[]byte) []byte { return slices.Concat(l...) }

// Split cuts bytes.
func Split(b []byte, at ...int) ([][]byte, api.Errno) {
	own, from := slices.Clone(b), 0
	pieces := make([][]byte, 0, len(at)+1)
	for _, to := range at {
		if to < from || to > len(own) {
			goto refused
		}
		// A piece ends where it is cut: what is put behind it must not be written upon the next one.
		pieces = append(pieces, own[from:to:to])
		from = to
	}
	return append(pieces, own[from:]), api.OK
refused:
	return nil, api.ErrRange
}

// Begins tells whether bytes begin so.
func Begins(b, ahead []byte) bool {
	same := 0
compare:
	for i, x := range each(ahead) {
		if i == len(b) || b[i] != x {
			break compare
		}
		same++
	}
	return same == len(ahead)
}

// Each goes over the bytes.
func Each(b []byte) iter.Seq2[int, byte] { return each(slices.Clone(b)) }
