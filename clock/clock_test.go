package clock_test

import (
	"math"
	"math/big"
	"math/rand"
	"slices"
	"testing"

	"packsaddle/api"
	"packsaddle/clock"
)

// edges are numbers of many sizes, at the ends of what times are, and beyond them.
func edges() []uint64 {
	return []uint64{
		0, 1, 2, 3, 5, 7, 1000, 1<<31 - 1, 1 << 31, 1<<31 + 1, 1<<32 - 1, 1 << 32, 1 << 40, 1 << 61, 1<<61 - 1, 1<<61 + 1,
		api.Forever - 2, api.Forever - 1, api.Forever, api.Forever + 1, api.Forever + 2,
		1<<63 - 1, 1 << 63, 1<<63 + 1, 1<<64 - 5, math.MaxUint64 - 1, math.MaxUint64,
	}
}

// numbers are the edges, and as many by chance again, of all sizes.
func numbers() []uint64 {
	chance := rand.New(rand.NewSource(4))
	l := edges()
	for range len(l) {
		l = append(l, chance.Uint64()>>chance.Intn(64))
	}
	return l
}

// span is one from a time up to another one.
func span(from, until uint64) api.Span { return api.Span{From: from, Until: until} }

// may tells which spans may be.
func may(x api.Span) bool { return x.From <= x.Until && x.Until <= api.Forever }

// spans are one of each two of the edges, those that may not be among them.
func spans() []api.Span {
	var l []api.Span
	for _, from := range edges() {
		for _, until := range edges() {
			l = append(l, span(from, until))
		}
	}
	return l
}

// whole is a number that knows no bound.
func whole(n uint64) *big.Int { return new(big.Int).SetUint64(n) }

// time is a number as a time.
func time(n *big.Int) uint64 {
	switch {
	case n.Sign() < 0:
		return 0
	case n.Cmp(whole(api.Forever)) > 0:
		return api.Forever
	}
	return n.Uint64()
}

// held is a number as a time, that knows no bound from there on.
func held(n uint64) *big.Int { return whole(time(whole(n))) }

// over is when a served amount is over, by numbers that know no bound.
func over(from, amount, rate uint64) uint64 {
	switch {
	case from > api.Forever:
		return api.Forever
	case amount == 0:
		return from
	case rate == 0:
		return api.Forever
	}
	ticks, rest := new(big.Int).DivMod(whole(amount), whole(rate), new(big.Int))
	if rest.Sign() > 0 {
		ticks.Add(ticks, whole(1))
	}
	return time(ticks.Add(ticks, whole(from)))
}

// carries is how much is served in a span, by numbers that know no bound.
func carries(x api.Span, rate uint64) uint64 {
	if !may(x) {
		return 0
	}
	ticks := new(big.Int).Sub(whole(x.Until), whole(x.From))
	return time(ticks.Mul(ticks, whole(rate)))
}

// P4.1

func TestCheck(t *testing.T) {
	for _, n := range numbers() {
		want := api.OK
		if n > api.Forever {
			want = api.ErrArg
		}
		for _, l := range [][]uint64{{n}, {n, 0}, {0, n}, {1, n, api.Forever}, {n, n}} {
			if e := clock.Check(l...); e != want {
				t.Errorf("Check(%v): %v, not %v", l, e, want)
			}
		}
	}
	if clock.Check() != api.OK || clock.Check(nil...) != api.OK || clock.Check([]uint64{}...) != api.OK {
		t.Error("Check of no numbers")
	}
	// What lies in spare room is none of the numbers.
	if e := clock.Check([]uint64{1, 2, math.MaxUint64}[:2]...); e != api.OK {
		t.Errorf("Check with spare room: %v", e)
	}
}

func TestCheckOfMany(t *testing.T) {
	l := make([]uint64, 1000)
	for i := range l {
		l[i] = api.Forever - uint64(i)
	}
	own := slices.Clone(l)
	if e := clock.Check(l...); e != api.OK {
		t.Errorf("Check of many: %v", e)
	}
	for _, at := range []int{0, 1, 500, 998, 999} {
		l[at] = api.Forever + 1
		if e := clock.Check(l...); e != api.ErrArg {
			t.Errorf("Check of many, wrong at %d: %v", at, e)
		}
		l[at] = own[at]
	}
	if !slices.Equal(l, own) {
		t.Error("Check changed its numbers")
	}
}

func TestSums(t *testing.T) {
	for _, a := range numbers() {
		for _, b := range numbers() {
			if got, want := clock.Add(a, b), time(new(big.Int).Add(held(a), held(b))); got != want {
				t.Errorf("Add(%d, %d): %d, not %d", a, b, got, want)
			}
			want := time(new(big.Int).Sub(held(a), held(b)))
			if a >= api.Forever {
				want = api.Forever
			}
			if got := clock.Sub(a, b); got != want {
				t.Errorf("Sub(%d, %d): %d, not %d", a, b, got, want)
			}
			if got, want := clock.Mul(a, b), time(new(big.Int).Mul(held(a), held(b))); got != want {
				t.Errorf("Mul(%d, %d): %d, not %d", a, b, got, want)
			}
		}
	}
}

func TestAdd(t *testing.T) {
	for _, c := range [][3]uint64{
		{0, 0, 0}, {2, 3, 5}, {api.Forever - 1, 0, api.Forever - 1}, {api.Forever - 2, 1, api.Forever - 1}, {api.Forever - 1, 1, api.Forever},
		{api.Forever, 0, api.Forever}, {api.Forever, 1, api.Forever}, {1, api.Forever, api.Forever}, {api.Forever, api.Forever, api.Forever},
		{1 << 61, 1<<61 - 1, api.Forever}, {1 << 61, 1 << 61, api.Forever}, {1<<61 - 1, 1<<61 - 1, api.Forever - 1},
		{math.MaxUint64, 0, api.Forever}, {math.MaxUint64, 1, api.Forever}, {1 << 63, 1 << 63, api.Forever}, {0, api.Forever + 1, api.Forever},
	} {
		if n := clock.Add(c[0], c[1]); n != c[2] {
			t.Errorf("Add(%d, %d): %d", c[0], c[1], n)
		}
	}
}

func TestSub(t *testing.T) {
	for _, c := range [][3]uint64{
		{0, 0, 0}, {5, 3, 2}, {5, 5, 0}, {3, 5, 0}, {0, 1, 0}, {0, api.Forever, 0}, {0, math.MaxUint64, 0},
		{api.Forever - 1, 1, api.Forever - 2}, {api.Forever - 1, api.Forever - 1, 0}, {api.Forever - 1, api.Forever, 0}, {api.Forever - 1, math.MaxUint64, 0},
		{api.Forever, 0, api.Forever}, {api.Forever, 5, api.Forever}, {api.Forever, api.Forever, api.Forever}, {api.Forever, math.MaxUint64, api.Forever},
		{api.Forever + 1, 2, api.Forever}, {math.MaxUint64, math.MaxUint64, api.Forever}, {math.MaxUint64, 0, api.Forever}, {1 << 63, 1<<63 - 1, api.Forever},
	} {
		if n := clock.Sub(c[0], c[1]); n != c[2] {
			t.Errorf("Sub(%d, %d): %d", c[0], c[1], n)
		}
	}
}

func TestMul(t *testing.T) {
	for _, c := range [][3]uint64{
		{0, 0, 0}, {2, 3, 6}, {api.Forever, 0, 0}, {0, api.Forever, 0}, {math.MaxUint64, 0, 0}, {0, math.MaxUint64, 0},
		{api.Forever, 1, api.Forever}, {1, api.Forever, api.Forever}, {math.MaxUint64, 1, api.Forever}, {api.Forever - 1, 1, api.Forever - 1},
		{1 << 40, 1 << 40, api.Forever}, {1 << 31, 1 << 31, api.Forever}, {1<<31 - 1, 1<<31 + 1, api.Forever}, {1<<31 - 1, 1 << 31, 1<<62 - 1<<31},
		{1 << 61, 2, api.Forever}, {1<<61 - 1, 2, api.Forever - 1}, {1 << 32, 1 << 32, api.Forever}, {1 << 63, 2, api.Forever},
		{math.MaxUint64, math.MaxUint64, api.Forever}, {api.Forever, api.Forever, api.Forever},
		// Of these the lowest 64 bits alone would be a time.
		{1<<33 + 1, 1 << 31, api.Forever}, {1<<32 + 1, 1<<32 + 1, api.Forever}, {3, 6148914691236517206, api.Forever},
	} {
		if n := clock.Mul(c[0], c[1]); n != c[2] {
			t.Errorf("Mul(%d, %d): %d", c[0], c[1], n)
		}
	}
}

// P4.2

func TestRight(t *testing.T) {
	for _, x := range spans() {
		if got := clock.Right(x); got != may(x) {
			t.Errorf("Right(%v): %v", x, got)
		}
	}
	for _, c := range []struct {
		x    api.Span
		want bool
	}{
		{span(0, 0), true}, {span(0, 1), true}, {span(1, 0), false}, {span(5, 5), true}, {span(6, 5), false}, {span(0, api.Forever), true},
		{span(api.Forever, api.Forever), true}, {span(api.Forever, 0), false}, {span(0, api.Forever+1), false},
		{span(api.Forever+1, api.Forever+1), false}, {span(math.MaxUint64, math.MaxUint64), false}, {span(math.MaxUint64, 0), false},
	} {
		if got := clock.Right(c.x); got != c.want {
			t.Errorf("Right(%v): %v", c.x, got)
		}
	}
}

func TestIn(t *testing.T) {
	for _, x := range spans() {
		for _, at := range edges() {
			if got, want := clock.In(x, at), may(x) && x.From <= at && at < x.Until; got != want {
				t.Errorf("In(%v, %d): %v", x, at, got)
			}
		}
	}
	for _, c := range []struct {
		x    api.Span
		at   uint64
		want bool
	}{
		{span(2, 5), 1, false}, {span(2, 5), 2, true}, {span(2, 5), 4, true}, {span(2, 5), 5, false}, {span(2, 2), 2, false}, {span(0, 1), 0, true}, {span(0, 0), 0, false},
		{span(0, api.Forever), api.Forever - 1, true}, {span(0, api.Forever), api.Forever, false}, {span(api.Forever, api.Forever), api.Forever, false},
		{span(0, math.MaxUint64), 3, false}, {span(5, 2), 3, false}, {span(0, math.MaxUint64), api.Forever + 1, false}, {span(2, 5), math.MaxUint64, false},
	} {
		if got := clock.In(c.x, c.at); got != c.want {
			t.Errorf("In(%v, %d): %v", c.x, c.at, got)
		}
	}
}

func TestBoth(t *testing.T) {
	for _, c := range []struct{ x, y, want api.Span }{
		{span(2, 5), span(4, 9), span(4, 5)}, {span(2, 4), span(4, 9), api.Span{}}, {span(2, 3), span(4, 9), api.Span{}}, {span(2, 5), span(2, 5), span(2, 5)},
		{span(0, 9), span(3, 4), span(3, 4)}, {span(3, 4), span(3, 9), span(3, 4)}, {span(3, 4), span(0, 4), span(3, 4)}, {span(0, 1), span(0, 1), span(0, 1)},
		{span(3, 3), span(0, 9), api.Span{}}, {span(3, 3), span(3, 3), api.Span{}}, {span(0, 0), span(0, 0), api.Span{}},
		{span(0, api.Forever), span(7, api.Forever), span(7, api.Forever)}, {span(0, api.Forever), span(api.Forever-1, api.Forever), span(api.Forever-1, api.Forever)},
		{span(0, api.Forever), span(api.Forever, api.Forever), api.Span{}},
		// What they have together might be, but one of them may not.
		{span(0, api.Forever+1), span(2, 5), api.Span{}}, {span(0, math.MaxUint64), span(0, api.Forever), api.Span{}},
		{span(5, 2), span(0, 9), api.Span{}}, {span(5, 2), span(5, 2), api.Span{}}, {span(math.MaxUint64, math.MaxUint64), span(0, 9), api.Span{}},
	} {
		for _, l := range [][2]api.Span{{c.x, c.y}, {c.y, c.x}} {
			if got, is := clock.Both(l[0], l[1]); got != c.want || is != (c.want != api.Span{}) {
				t.Errorf("Both(%v, %v): %v %v", l[0], l[1], got, is)
			}
		}
	}
}

func TestBothIsWhatBothHave(t *testing.T) {
	var small []api.Span
	for from := range uint64(7) {
		for until := range uint64(7) {
			small = append(small, span(from, until))
		}
	}
	for _, x := range small {
		for _, y := range small {
			got, is := clock.Both(x, y)
			some := false
			for at := range uint64(8) {
				both := clock.In(x, at) && clock.In(y, at)
				some = some || both
				if clock.In(got, at) != both {
					t.Errorf("Both(%v, %v): %v, at %d", x, y, got, at)
				}
			}
			if is != some || !is && got != (api.Span{}) {
				t.Errorf("Both(%v, %v): %v %v", x, y, got, is)
			}
		}
	}
}

func TestBothOfAllSpans(t *testing.T) {
	for _, x := range spans() {
		for _, y := range spans() {
			want := span(max(x.From, y.From), min(x.Until, y.Until))
			some := may(x) && may(y) && want.From < want.Until
			if !some {
				want = api.Span{}
			}
			if got, is := clock.Both(x, y); got != want || is != some {
				t.Errorf("Both(%v, %v): %v %v", x, y, got, is)
			}
		}
	}
}

// P4.3

func TestOver(t *testing.T) {
	for _, c := range [][4]uint64{
		{10, 7, 2, 14}, {10, 8, 2, 14}, {10, 9, 2, 15}, {10, 1, 2, 11}, {10, 1, 1, 11}, {10, 1, math.MaxUint64, 11}, {0, 6, 3, 2},
		{10, 7, 0, api.Forever}, {10, 0, 0, 10}, {10, 0, 2, 10}, {0, 0, 0, 0}, {0, 1, 0, api.Forever},
		{api.Forever - 1, 0, 5, api.Forever - 1}, {api.Forever - 1, 1, 5, api.Forever}, {api.Forever - 2, 1, 5, api.Forever - 1}, {api.Forever - 2, 6, 5, api.Forever},
		{api.Forever, 0, 0, api.Forever}, {api.Forever, 0, 5, api.Forever}, {api.Forever, 5, 5, api.Forever}, {api.Forever + 1, 0, 1, api.Forever},
		{math.MaxUint64, 0, 0, api.Forever}, {math.MaxUint64, 1, 1, api.Forever}, {math.MaxUint64, 0, 1, api.Forever},
		{0, api.Forever, 1, api.Forever}, {0, api.Forever - 1, 1, api.Forever - 1}, {1, api.Forever - 1, 1, api.Forever}, {0, math.MaxUint64, 1, api.Forever},
		// An amount and a rate are no times, and have no bound.
		{0, math.MaxUint64, math.MaxUint64, 1}, {0, math.MaxUint64, math.MaxUint64 - 1, 2}, {5, math.MaxUint64, 1 << 32, 1<<32 + 5}, {0, math.MaxUint64, 8, 1 << 61},
		{0, api.Forever + 1, 2, 1 << 61}, {0, 1, api.Forever + 1, 1},
	} {
		if n := clock.Over(c[0], c[1], c[2]); n != c[3] {
			t.Errorf("Over(%d, %d, %d): %d, not %d", c[0], c[1], c[2], n, c[3])
		}
	}
	for _, from := range edges() {
		for _, amount := range numbers() {
			for _, rate := range numbers() {
				if got, want := clock.Over(from, amount, rate), over(from, amount, rate); got != want {
					t.Errorf("Over(%d, %d, %d): %d, not %d", from, amount, rate, got, want)
				}
			}
		}
	}
}

func TestCarries(t *testing.T) {
	for _, c := range []struct {
		x          api.Span
		rate, want uint64
	}{
		{span(2, 5), 4, 12}, {span(2, 5), 0, 0}, {span(2, 2), 4, 0}, {span(2, 3), 4, 4}, {span(0, 0), math.MaxUint64, 0}, {span(0, 1), math.MaxUint64, api.Forever},
		{span(0, 1), api.Forever - 1, api.Forever - 1}, {span(0, 1), api.Forever + 1, api.Forever}, {span(0, 1<<31), 1 << 31, api.Forever}, {span(0, 1<<32), 1 << 32, api.Forever},
		{span(0, api.Forever), 1, api.Forever}, {span(0, api.Forever-1), 1, api.Forever - 1}, {span(0, api.Forever), 0, 0}, {span(0, api.Forever), 2, api.Forever},
		// A span up to Forever has no more times than it has.
		{span(api.Forever, api.Forever), 4, 0}, {span(api.Forever-1, api.Forever), 4, 4}, {span(api.Forever-3, api.Forever), 4, 12}, {span(1, api.Forever), 1, api.Forever - 1},
		{span(5, 2), 4, 0}, {span(0, api.Forever+1), 4, 0}, {span(math.MaxUint64-1, math.MaxUint64), 4, 0}, {span(math.MaxUint64, 0), 4, 0},
	} {
		if n := clock.Carries(c.x, c.rate); n != c.want {
			t.Errorf("Carries(%v, %d): %d, not %d", c.x, c.rate, n, c.want)
		}
	}
	for _, x := range spans() {
		for _, rate := range numbers() {
			if got, want := clock.Carries(x, rate), carries(x, rate); got != want {
				t.Errorf("Carries(%v, %d): %d, not %d", x, rate, got, want)
			}
		}
	}
}

// gone is what an iterator goes over.
func gone(l ...api.Span) []api.Span { return slices.Collect(clock.Sorted(l...)) }

func TestSorted(t *testing.T) {
	for _, c := range []struct{ l, want []api.Span }{
		{nil, nil}, {[]api.Span{}, nil}, {[]api.Span{span(2, 5)}, []api.Span{span(2, 5)}}, {[]api.Span{{}}, []api.Span{{}}},
		{[]api.Span{span(4, 9), span(2, 5), span(3, 3)}, []api.Span{span(2, 5), span(3, 3), span(4, 9)}},
		{[]api.Span{span(2, 9), span(2, 5), span(2, 2), span(1, 20)}, []api.Span{span(1, 20), span(2, 2), span(2, 5), span(2, 9)}},
		{[]api.Span{span(2, 5), span(1, 2), span(2, 5), span(1, 2), span(2, 5)}, []api.Span{span(1, 2), span(1, 2), span(2, 5), span(2, 5), span(2, 5)}},
		{[]api.Span{span(5, 2), span(4, 9), span(0, math.MaxUint64), span(0, 3), span(1, 0)}, []api.Span{span(0, 3), span(4, 9)}},
		{[]api.Span{span(5, 2), span(api.Forever+1, api.Forever+1)}, nil},
		{[]api.Span{span(api.Forever, api.Forever), span(0, api.Forever), span(api.Forever-1, api.Forever), span(0, 0)}, []api.Span{span(0, 0), span(0, api.Forever), span(api.Forever-1, api.Forever), span(api.Forever, api.Forever)}},
	} {
		if got := gone(c.l...); !slices.Equal(got, c.want) {
			t.Errorf("Sorted(%v): %v", c.l, got)
		}
	}
	for range clock.Sorted() {
		t.Error("Sorted of no spans told one")
	}
}

func TestSortedHangsNotOnTheOrder(t *testing.T) {
	l := append(spans(), spans()...)
	want := slices.DeleteFunc(slices.Clone(l), func(x api.Span) bool { return !may(x) })
	slices.SortFunc(want, func(x, y api.Span) int { return whole(x.Until).Cmp(whole(y.Until)) })
	slices.SortStableFunc(want, func(x, y api.Span) int { return whole(x.From).Cmp(whole(y.From)) })
	chance := rand.New(rand.NewSource(5))
	for range 20 {
		chance.Shuffle(len(l), func(i, j int) { l[i], l[j] = l[j], l[i] })
		if got := gone(l...); !slices.Equal(got, want) {
			t.Fatalf("Sorted of %d: %d, not %d", len(l), len(got), len(want))
		}
	}
}

func TestSortedIsLeftAndGoneOverAgain(t *testing.T) {
	l := []api.Span{span(4, 9), span(2, 5), span(7, 7), span(2, 3)}
	want := []api.Span{span(2, 3), span(2, 5), span(4, 9), span(7, 7)}
	all := clock.Sorted(l...)
	for most := 1; most <= len(want); most++ {
		var got []api.Span
		for x := range all {
			got = append(got, x)
			if len(got) == most {
				break
			}
		}
		if !slices.Equal(got, want[:most]) {
			t.Errorf("left behind %d: %v", most, got)
		}
		if got := slices.Collect(all); !slices.Equal(got, want) {
			t.Errorf("gone over again: %v", got)
		}
	}
	// Who leaves it is told no more of it.
	calls := 0
	all(func(api.Span) bool { calls++; return false })
	if calls != 1 {
		t.Errorf("left at once: %d calls", calls)
	}
	var pairs int
	for x := range all {
		for y := range all {
			if x == y {
				break
			}
			pairs++
		}
	}
	if pairs != 0+1+2+3 {
		t.Errorf("gone over within itself: %d", pairs)
	}
}

func TestSortedAsItWas(t *testing.T) {
	room := []api.Span{span(4, 9), span(9, 1), span(2, 5), span(1, 2)}
	own := slices.Clone(room)
	all := clock.Sorted(room[:3]...)
	want := []api.Span{span(2, 5), span(4, 9)}
	if got := slices.Collect(all); !slices.Equal(got, want) || !slices.Equal(room, own) {
		t.Errorf("Sorted: %v; of %v", got, room)
	}
	clear(room)
	var got []api.Span
	for x := range all {
		room[0] = span(8, 8)
		got = append(got, x)
	}
	if !slices.Equal(got, want) {
		t.Errorf("Sorted is not as it was: %v", got)
	}
}

// P4.4

func TestSumsRise(t *testing.T) {
	l := numbers()
	slices.Sort(l)
	for _, a := range l {
		var least uint64
		for _, b := range l {
			n := clock.Add(a, b)
			if n < least || n > api.Forever || n != clock.Add(b, a) || a <= api.Forever && n < a {
				t.Errorf("Add(%d, %d): %d, behind %d", a, b, n, least)
			}
			least = n
		}
	}
}

func TestSubOfAdd(t *testing.T) {
	for _, a := range numbers() {
		for _, b := range numbers() {
			n := clock.Add(a, b)
			if n < api.Forever && (clock.Sub(n, b) != a || clock.Sub(n, a) != b) {
				t.Errorf("Sub of Add(%d, %d): %d %d", a, b, clock.Sub(n, b), clock.Sub(n, a))
			}
			if n == api.Forever && clock.Sub(n, b) != api.Forever {
				t.Errorf("Sub(Forever, %d): %d", b, clock.Sub(n, b))
			}
		}
	}
}

func TestWhatASpanCarriesIsOverAtItsEnd(t *testing.T) {
	for _, x := range spans() {
		for _, rate := range numbers() {
			if !clock.Right(x) {
				continue
			}
			all := clock.Carries(x, rate)
			if at := clock.Over(x.From, all, rate); at > x.Until {
				t.Errorf("%v at %d carries %d, over at %d", x, rate, all, at)
			}
			if at := clock.Over(x.From, all+1, rate); all < api.Forever && x.Until < api.Forever && at <= x.Until {
				t.Errorf("%v at %d carries more than %d, over at %d", x, rate, all, at)
			}
		}
	}
}
