package path_test

import (
	"bytes"
	"encoding/binary"
	"fmt"
	"math"
	"math/rand"
	"reflect"
	"slices"
	"testing"

	"packsaddle/api"
	"packsaddle/cbor"
	"packsaddle/path"
)

func up(gate uint32) api.Cross   { return api.Cross{Gate: gate, Up: true} }
func down(gate uint32) api.Cross { return api.Cross{Gate: gate} }

// out is a path on its way out, back one that goes back.
func out(l ...api.Cross) api.Path  { return api.Path{L: l} }
func back(l ...api.Cross) api.Path { return api.Path{Back: true, L: l} }

func number(n uint64) api.Item    { return api.Item{Kind: api.ItemUint, N: n} }
func text(s string) api.Item      { return api.Item{Kind: api.ItemText, S: s} }
func data(b ...byte) api.Item     { return api.Item{Kind: api.ItemBytes, B: b} }
func list(l ...api.Item) api.Item { return api.Item{Kind: api.ItemList, L: l} }
func truth(n uint64) api.Item     { return api.Item{Kind: api.ItemBool, N: n} }

// null is an item by itself.
var null = api.Item{Kind: api.ItemNull}

// cross is the item of a crossing of that gate, up (1) or down (0).
func cross(gate, up uint64) api.Item { return list(number(gate), truth(up)) }

// run are so many crossings, no two of them the same: each gate up, and down.
func run(n int) []api.Cross {
	var l []api.Cross
	for i := range n {
		l = append(l, api.Cross{Gate: uint32(i/2 + 1), Up: i%2 == 0})
	}
	return l
}

// rise are so many crossings of as many gates.
func rise(n int) []api.Cross {
	var l []api.Cross
	for i := range n {
		l = append(l, api.Cross{Gate: uint32(n - i), Up: i%3 == 0})
	}
	return l
}

// rights are crossings that may be, at the ends and in between.
func rights() []api.Cross {
	var l []api.Cross
	for _, gate := range []uint32{1, 2, 5, 23, 24, 255, 256, 65535, 65536, 1<<31 - 1, 1 << 31, 1<<32 - 2, 1<<32 - 1} {
		l = append(l, up(gate), down(gate))
	}
	return l
}

// samples are paths that may be.
func samples() []api.Path {
	lists := [][]api.Cross{nil, {}, {up(5)}, {down(5)}, {up(5), down(5)}, {down(5), up(5)}, {up(1), up(2), up(3)}, {up(3), up(2), up(1)}, {down(9), up(2), down(2), up(9)}, rights(), run(63), run(64), rise(63), rise(64)}
	for _, x := range rights() {
		lists = append(lists, []api.Cross{x})
	}
	var l []api.Path
	for _, crossings := range lists {
		l = append(l, out(crossings...), back(crossings...))
	}
	return append(l, anyPaths(300)...)
}

// anyPaths are so many that may be, of many lengths.
func anyPaths(n int) []api.Path {
	chance := rand.New(rand.NewSource(7))
	l := make([]api.Path, n)
	for i := range l {
		l[i].Back = chance.Intn(2) == 0
		// Of few gates, there are many that are there both up and down.
		bits := 2 + chance.Intn(31)
		for range chance.Intn(api.MaxPath + 1) {
			x := api.Cross{Gate: max(1, chance.Uint32()>>(32-min(bits, 32))), Up: chance.Intn(2) == 0}
			if !slices.Contains(l[i].L, x) {
				l[i].L = append(l[i].L, x)
			}
		}
	}
	return l
}

// noes are paths that may not be.
func noes() []api.Path {
	lists := [][]api.Cross{
		// A gate of 0, wherever it stands.
		{up(0)}, {down(0)}, {up(0), down(0)}, {up(0), up(5)}, {up(5), up(0)}, {up(5), down(0), up(6)}, append(run(63), up(0)), append([]api.Cross{down(0)}, run(63)...),
		// Twice.
		{up(5), up(5)}, {down(5), down(5)}, {up(5), down(5), up(5)}, {up(5), up(6), up(7), up(5)}, {down(1), up(1<<32 - 1), up(1<<32 - 1)}, append(run(63), up(1)), append(run(63), down(1)), append(run(62), run(2)...), append(rise(63), rise(63)[62]),
		// Too many.
		run(65), run(66), run(128), run(1000), rise(65), rise(1000), make([]api.Cross, 65), slices.Repeat([]api.Cross{up(5)}, 65), append(run(64), up(1)), append(run(64), up(0)), slices.Repeat(run(2), 1<<16),
	}
	var l []api.Path
	for _, crossings := range lists {
		l = append(l, out(crossings...), back(crossings...))
	}
	return l
}

// may tells which paths may be, by another road.
func may(p api.Path) bool {
	for i, x := range p.L {
		if i >= 64 || x.Gate == 0 || slices.Contains(p.L[:i], x) {
			return false
		}
	}
	return true
}

// none is the path that stands beside an error. nil and empty mean the same.
func none(p api.Path) bool { return !p.Back && len(p.L) == 0 }

// noItem is the item that stands beside an error.
func noItem(x api.Item) bool {
	return x.Kind == api.ItemNone && x.N == 0 && len(x.B) == 0 && x.S == "" && len(x.L) == 0
}

// alike tells whether two paths are, by another road.
func alike(a, b api.Path) bool {
	if a.Back != b.Back || len(a.L) != len(b.L) {
		return false
	}
	for i := range a.L {
		if a.L[i].Gate != b.L[i].Gate || a.L[i].Up != b.L[i].Up {
			return false
		}
	}
	return true
}

// brief is a path that doesn't fill the page.
func brief(p api.Path) api.Path {
	return api.Path{Back: p.Back, L: p.L[:min(len(p.L), 70)]}
}

// P7.1

func TestCheck(t *testing.T) {
	for _, p := range samples() {
		if e := path.Check(p); e != api.OK || !may(p) {
			t.Errorf("Check(%v): %v", p, e)
		}
	}
	for _, p := range noes() {
		if e := path.Check(p); e != api.ErrArg || may(p) {
			t.Errorf("Check(%v), of %d: %v", brief(p), len(p.L), e)
		}
	}
	if e := path.Check(api.Path{}); e != api.OK {
		t.Errorf("Check of none: %v", e)
	}
}

func TestCheckAtEachPlace(t *testing.T) {
	// One crossing that may not be, wherever it stands; one that is there already, wherever both stand.
	for n := 1; n <= 64; n++ {
		for i := range n {
			p := out(run(n)...)
			p.L[i] = api.Cross{Up: i%2 == 0}
			if e := path.Check(p); e != api.ErrArg {
				t.Errorf("Check with gate 0 at %d of %d: %v", i, n, e)
			}
			for j := range i {
				p.L[i] = p.L[j]
				if e := path.Check(p); e != api.ErrArg {
					t.Errorf("Check with the crossings %d and %d of %d the same: %v", j, i, n, e)
				}
			}
		}
	}
}

func TestHas(t *testing.T) {
	for _, p := range slices.Concat(samples(), noes()) {
		asked := append(slices.Clone(brief(p).L), rights()...)
		asked = append(asked, up(0), down(0), up(3), down(3), up(1000), down(1000))
		if len(p.L) > 1000 {
			asked = []api.Cross{up(1), down(1), up(2), down(0)}
		}
		for _, x := range asked {
			want := false
			for _, y := range p.L {
				want = want || x.Gate == y.Gate && x.Up == y.Up
			}
			if is := path.Has(p, x); is != want {
				t.Errorf("Has(%v, %v): %v", brief(p), x, is)
			}
		}
	}
	for _, c := range []struct {
		p    api.Path
		x    api.Cross
		want bool
	}{
		{out(), up(5), false}, {out(up(5)), up(5), true}, {out(up(5)), down(5), false}, {out(down(5)), up(5), false}, {back(up(5)), up(5), true}, {out(up(5), down(5)), down(5), true}, {out(up(5)), up(6), false}, {out(run(64)...), down(32), true}, {out(run(64)...), up(33), false}, {api.Path{}, api.Cross{}, false}, {back(), api.Cross{}, false},
	} {
		if is := path.Has(c.p, c.x); is != c.want {
			t.Errorf("Has(%v, %v): %v", c.p, c.x, is)
		}
	}
}

func TestWith(t *testing.T) {
	for _, c := range []struct {
		p    api.Path
		x    api.Cross
		want api.Path
		e    api.Errno
	}{
		{out(), up(5), out(up(5)), api.OK},
		{out(up(5)), up(5), out(), api.ErrTwice},
		{out(up(5)), down(5), out(up(5), down(5)), api.OK},
		{out(), up(0), out(), api.ErrArg},
		{out(), down(0), out(), api.ErrArg},
		{out(), down(1), out(down(1)), api.OK},
		{out(), up(1<<32 - 1), out(up(1<<32 - 1)), api.OK},
		// What goes back goes on back.
		{back(), up(5), back(up(5)), api.OK},
		{back(up(5)), down(5), back(up(5), down(5)), api.OK},
		{back(up(5)), up(5), out(), api.ErrTwice},
		{back(up(5)), up(0), out(), api.ErrArg},
		// It is the last one, whatever its number.
		{out(up(5)), up(3), out(up(5), up(3)), api.OK},
		{out(up(5), down(3)), up(4), out(up(5), down(3), up(4)), api.OK},
		// It stands there, not as the last one.
		{out(up(5), down(3), up(4)), up(5), out(), api.ErrTwice},
		{out(up(5), down(3), up(4)), down(3), out(), api.ErrTwice},
		{out(up(5), down(3), up(4)), up(4), out(), api.ErrTwice},
		// The bound.
		{out(run(63)...), down(32), out(run(64)...), api.OK},
		{out(run(63)...), up(32), out(), api.ErrTwice},
		{out(run(64)...), up(33), out(), api.ErrFull},
		{out(run(64)...), up(1<<32 - 1), out(), api.ErrFull},
		{back(run(64)...), down(33), out(), api.ErrFull},
		// The error that is named first.
		{out(run(64)...), up(1), out(), api.ErrTwice},
		{out(run(64)...), down(32), out(), api.ErrTwice},
		{out(run(64)...), up(0), out(), api.ErrArg},
		{out(run(65)...), up(1), out(), api.ErrArg},
		{out(run(65)...), up(1000), out(), api.ErrArg},
		{out(up(0)), up(0), out(), api.ErrArg},
		{out(up(0)), up(5), out(), api.ErrArg},
		{out(up(5), up(5)), up(5), out(), api.ErrArg},
		{out(up(5), up(5)), down(5), out(), api.ErrArg},
	} {
		if p, e := path.With(c.p, c.x); !alike(p, c.want) || e != c.e {
			t.Errorf("With(%v, %v): %v %v, not %v %v", c.p, c.x, p, e, c.want, c.e)
		}
	}
}

func TestWithOfMany(t *testing.T) {
	for _, p := range slices.Concat(samples(), noes()) {
		for _, x := range []api.Cross{up(5), down(5), up(1), down(64), up(0), down(0), up(1 << 20), down(1<<32 - 1)} {
			want, e := api.Path{}, api.OK
			switch {
			case !may(p) || x.Gate == 0:
				e = api.ErrArg
			case slices.Contains(p.L, x):
				e = api.ErrTwice
			case len(p.L) >= 64:
				e = api.ErrFull
			default:
				want = api.Path{Back: p.Back, L: append(slices.Clone(p.L), x)}
			}
			if q, f := path.With(p, x); !alike(q, want) || f != e {
				t.Errorf("With(%v, %v): %v %v, not %v", brief(p), x, q, f, e)
			}
		}
	}
}

func TestTurned(t *testing.T) {
	for _, p := range samples() {
		if q, e := path.Turned(p); !alike(q, back()) || e != api.OK {
			t.Errorf("Turned(%v): %v %v", p, q, e)
		}
	}
	for _, p := range noes() {
		if q, e := path.Turned(p); !none(q) || e != api.ErrArg {
			t.Errorf("Turned(%v): %v %v", brief(p), q, e)
		}
	}
}

// P7.2

// head is that of a major and a number, by another road.
func head(major byte, n uint64) []byte {
	long := binary.BigEndian.AppendUint64(nil, n)
	switch {
	case n < 24:
		return []byte{major<<5 | byte(n)}
	case n < 1<<8:
		return append([]byte{major<<5 | 24}, long[7:]...)
	case n < 1<<16:
		return append([]byte{major<<5 | 25}, long[6:]...)
	}
	return append([]byte{major<<5 | 26}, long[4:]...)
}

// simple is the byte of a truth.
func simple(is bool) byte {
	if is {
		return 0xf5
	}
	return 0xf4
}

// laid are the bytes of a path's item, by another road. It lays such as may not be, too.
func laid(p api.Path) []byte {
	b := append(head(4, uint64(1+len(p.L))), simple(p.Back))
	for _, x := range p.L {
		b = append(append(b, 0x82), head(0, uint64(x.Gate))...)
		b = append(b, simple(x.Up))
	}
	return b
}

func TestItem(t *testing.T) {
	for _, c := range []struct {
		p    api.Path
		want api.Item
		b    string
	}{
		{back(up(5)), list(truth(1), list(number(5), truth(1))), "\x82\xf5\x82\x05\xf5"},
		{out(up(5)), list(truth(0), list(number(5), truth(1))), "\x82\xf4\x82\x05\xf5"},
		{back(down(5)), list(truth(1), list(number(5), truth(0))), "\x82\xf5\x82\x05\xf4"},
		{out(), list(truth(0)), "\x81\xf4"},
		{back(), list(truth(1)), "\x81\xf5"},
		{out(up(24), down(1<<32-1)), list(truth(0), cross(24, 1), cross(1<<32-1, 0)), "\x83\xf4\x82\x18\x18\xf5\x82\x1a\xff\xff\xff\xff\xf4"},
	} {
		x, e := path.Item(c.p)
		b, f := cbor.Encode(x)
		if !cbor.Same(x, c.want) || e != api.OK || string(b) != c.b || f != api.OK {
			t.Errorf("Item(%v): %v %v, % x %v", c.p, x, e, b, f)
		}
	}
	for _, p := range samples() {
		x, e := path.Item(p)
		if b, f := cbor.Encode(x); e != api.OK || !bytes.Equal(b, laid(p)) || f != api.OK {
			t.Errorf("Item(%v): %v %v, % x %v", p, x, e, b, f)
		}
	}
	for _, p := range noes() {
		if x, e := path.Item(p); !noItem(x) || e != api.ErrArg {
			t.Errorf("Item(%v): %s %v", brief(p), shown(x, 3), e)
		}
	}
}

func TestOf(t *testing.T) {
	for _, p := range samples() {
		x, e := cbor.Decode(laid(p))
		if e != api.OK {
			t.Fatalf("% x: %v", laid(p), e)
		}
		if q, f := path.Of(x); !alike(q, p) || f != api.OK {
			t.Errorf("Of(% x): %v %v, not %v", laid(p), q, f, p)
		}
	}
	for _, p := range noes() {
		if x, e := cbor.Decode(laid(p)); e == api.OK {
			unread(t, x)
		} else if len(p.L) < 1000 {
			t.Fatalf("% x: %v", laid(p), e)
		}
	}
}

// shown tells an item, so many levels of it: it may be deep, or hold itself.
func shown(x api.Item, levels int) string {
	s := fmt.Sprintf("%d %d %.20x %.20q", x.Kind, x.N, x.B, x.S)
	for i, y := range x.L {
		if levels == 0 || i == 5 {
			return s + " .."
		}
		s += " (" + shown(y, levels-1) + ")"
	}
	return s
}

// unread holds Of of an item that is no path's against what it is to answer.
func unread(t *testing.T, x api.Item) {
	t.Helper()
	if p, e := path.Of(x); !none(p) || e != api.ErrPath {
		t.Errorf("Of(%s): %v %v", shown(x, 3), brief(p), e)
	}
}

// strange are items that stand at no place of a path's.
func strange() []api.Item {
	return []api.Item{{}, null, {Kind: api.ItemNull, N: 1}, {Kind: 7}, {Kind: -1}, {Kind: math.MaxInt}, {Kind: math.MinInt}, data(), data(5), data(0xf5), text(""), text("5"), text("\xff"), list(list()), list(null), list(number(5), number(1)), list(truth(1), truth(1)), list(truth(1), number(5)), list(number(5), null), list(number(5), list(truth(1))), list(list(number(5)), truth(1)), number(math.MaxUint64), truth(2), truth(math.MaxUint64), {N: 5}, {N: 1}, {L: []api.Item{truth(0)}}, {L: []api.Item{number(5), truth(1)}}}
}

// more are an item, with one thing more beside what its kind names.
func more(x api.Item) []api.Item {
	var l []api.Item
	but := func(change func(*api.Item)) {
		y := x
		change(&y)
		l = append(l, y)
	}
	but(func(y *api.Item) { y.B = []byte{0} })
	but(func(y *api.Item) { y.B = make([]byte, 1000) })
	but(func(y *api.Item) { y.S = "\x00" })
	but(func(y *api.Item) { y.S = "\xff" })
	if x.Kind == api.ItemList {
		but(func(y *api.Item) { y.N = 1 })
		but(func(y *api.Item) { y.N = uint64(len(x.L)) })
		but(func(y *api.Item) { y.N = math.MaxUint64 })
	} else {
		but(func(y *api.Item) { y.L = []api.Item{{}} })
		but(func(y *api.Item) { y.L = []api.Item{x, x} })
	}
	return l
}

func TestOfRefusesOtherItems(t *testing.T) {
	right := []api.Item{truth(1), cross(5, 1), cross(5, 0), cross(6, 1)}
	if p, e := path.Of(list(right...)); !alike(p, back(up(5), down(5), up(6))) || e != api.OK {
		t.Fatalf("of the right one: %v %v", p, e)
	}
	// As a whole, and at each place.
	for _, x := range append(strange(), number(0), number(1), number(5), truth(0), truth(1), cross(5, 1), list(), list(list(right...)), list(number(1)), list(truth(2)), list(cross(5, 1))) {
		unread(t, x)
	}
	for i := range right {
		others := append(strange(), number(0), number(1), number(5), list())
		if i == 0 {
			others = append(others, cross(5, 1))
		} else {
			others = append(others, truth(0), truth(1))
		}
		for _, x := range append(others, more(right[i])...) {
			l := slices.Clone(right)
			l[i] = x
			unread(t, list(l...))
		}
	}
	for _, x := range append(more(list(right...)), more(list(truth(0)))...) {
		unread(t, x)
	}
	// The crossings alone, and one more thing behind them.
	unread(t, list(right[1:]...))
	for _, x := range append(strange(), number(5), truth(1), list()) {
		unread(t, list(append(slices.Clone(right), x)...))
	}
	for _, kind := range []api.ItemKind{api.ItemNone, api.ItemUint, api.ItemBytes, api.ItemText, api.ItemBool, api.ItemNull, 7, -1} {
		unread(t, api.Item{Kind: kind, L: right})
	}
}

func TestOfRefusesOtherCrossings(t *testing.T) {
	for _, y := range []api.Item{
		// Too few, too many, turned about.
		list(), list(number(5)), list(truth(1)), list(number(5), truth(1), truth(1)), list(number(5), truth(1), null), list(number(5), number(5), truth(1)), list(truth(1), number(5)), list(number(5), truth(1), cross(6, 1)),
		// No gate, or one that is too great.
		cross(0, 0), cross(0, 1), cross(1<<32, 1), cross(1<<32+5, 1), cross(1<<63, 0), cross(math.MaxUint64, 1), cross(1<<33+7, 0),
		// No truth.
		cross(5, 2), cross(5, 3), cross(5, math.MaxUint64), cross(5, 1<<32), cross(5, 1<<32+1),
		// Of other kinds.
		list(number(5), number(0)), list(number(5), number(1)), list(truth(1), truth(1)), list(null, truth(1)), list(number(5), null), list(text("5"), truth(1)), list(data(5), truth(1)), list(number(5), text("true")), list(list(number(5)), truth(1)), list(number(5), list()), list(api.Item{N: 5}, truth(1)), list(number(5), api.Item{N: 1}), list(api.Item{Kind: 7, N: 5}, truth(1)),
		{Kind: api.ItemUint, L: []api.Item{number(5), truth(1)}}, {Kind: api.ItemBytes, L: []api.Item{number(5), truth(1)}}, {L: []api.Item{number(5), truth(1)}},
	} {
		unread(t, list(truth(0), y))
		unread(t, list(truth(1), y))
		unread(t, list(truth(1), cross(7, 0), y))
		unread(t, list(truth(1), y, cross(7, 0)))
	}
	for _, y := range more(number(5)) {
		unread(t, list(truth(0), list(y, truth(1))))
	}
	for _, y := range append(more(truth(0)), more(truth(1))...) {
		unread(t, list(y, cross(5, 1)))
		unread(t, list(truth(0), list(number(5), y)))
	}
}

func TestOfAtTheBounds(t *testing.T) {
	long := func(n int) api.Item {
		l := []api.Item{truth(0)}
		for i := range n {
			l = append(l, cross(uint64(1+i), 1))
		}
		return list(l...)
	}
	if p, e := path.Of(long(64)); len(p.L) != 64 || e != api.OK {
		t.Errorf("Of 64 crossings: %v %v", p, e)
	}
	for _, n := range []int{65, 66, 127, 128, 1 << 16, 1 << 20} {
		unread(t, long(n))
	}
	unread(t, list(make([]api.Item, 1<<20)...))
	unread(t, list(slices.Repeat([]api.Item{truth(0)}, 65)...))
	// As deep as one likes, and a list that holds itself.
	deep := cross(5, 1)
	for range 1 << 16 {
		deep = list(deep, truth(1))
	}
	unread(t, deep)
	unread(t, list(truth(0), deep))
	unread(t, list(truth(0), list(deep, truth(1))))
	own := list(truth(0), truth(0))
	own.L[1] = own
	unread(t, own)
	own.L[0] = own
	unread(t, own)
	unread(t, list(truth(0), own))
}

// P7.3

// visit is a gate, and how many crossings of it there are.
type visit struct {
	gate uint32
	n    int
}

// visits are those that Gates goes over, up to so many.
func visits(p api.Path, most int) []visit {
	var l []visit
	for gate, n := range path.Gates(p) {
		if l = append(l, visit{gate, n}); len(l) == most {
			break
		}
	}
	return l
}

// counted are the gates of a path, by another road.
func counted(p api.Path) []visit {
	var l []visit
	for _, x := range p.L {
		i, is := slices.BinarySearchFunc(l, x.Gate, func(v visit, gate uint32) int {
			return int(v.gate) - int(gate)
		})
		if !is {
			l = slices.Insert(l, i, visit{gate: x.Gate})
		}
		l[i].n++
	}
	return l
}

func TestGates(t *testing.T) {
	for _, c := range []struct {
		p    api.Path
		want []visit
	}{
		{out(), nil}, {back(), nil}, {out(up(5)), []visit{{5, 1}}}, {back(down(5)), []visit{{5, 1}}}, {out(up(5), down(5)), []visit{{5, 2}}}, {out(up(5), down(3), down(5), up(4)), []visit{{3, 1}, {4, 1}, {5, 2}}}, {out(up(1<<32-1), up(10), up(9)), []visit{{9, 1}, {10, 1}, {1<<32 - 1, 1}}},
		// Such as may not be.
		{out(up(0)), []visit{{0, 1}}}, {back(up(5), down(0), up(0), up(0)), []visit{{0, 3}, {5, 1}}}, {out(up(5), up(5), up(5), down(5)), []visit{{5, 4}}}, {out(slices.Repeat([]api.Cross{up(7), down(2)}, 100)...), []visit{{2, 100}, {7, 100}}},
	} {
		if l := visits(c.p, -1); !slices.Equal(l, c.want) {
			t.Errorf("Gates(%v): %v, not %v", brief(c.p), l, c.want)
		}
	}
	for _, p := range slices.Concat(samples(), noes()) {
		if l := visits(p, -1); !slices.Equal(l, counted(p)) {
			t.Errorf("Gates(%v): %v, not %v", brief(p), l, counted(p))
		}
	}
}

func TestGatesIsLeftAndGoneOverAgain(t *testing.T) {
	p := out(up(9), up(5), down(9), up(7))
	want := []visit{{5, 1}, {7, 1}, {9, 2}}
	all := path.Gates(p)
	// What it goes over is as it was.
	p.L[0], p.L[1] = up(1), up(2)
	for most := 1; most <= 3; most++ {
		var l []visit
		for gate, n := range all {
			if l = append(l, visit{gate, n}); len(l) == most {
				break
			}
		}
		if !slices.Equal(l, want[:most]) {
			t.Errorf("left behind %d: %v", most, l)
		}
	}
	// One goes over it while another one does.
	i := 0
	for gate, n := range all {
		var l []visit
		for gate, n := range all {
			l = append(l, visit{gate, n})
		}
		if (visit{gate, n}) != want[i] || !slices.Equal(l, want) {
			t.Errorf("within another, at %d: %v", gate, l)
		}
		i++
	}
	if i != 3 {
		t.Errorf("gone over %d", i)
	}
	if l := visits(out(rise(64)...), 1); !slices.Equal(l, []visit{{1, 1}}) {
		t.Errorf("left at once: %v", l)
	}
}

func TestSame(t *testing.T) {
	for _, c := range []struct {
		a, b api.Path
		want bool
	}{
		{out(), out(), true}, {back(), back(), true}, {out(), back(), false}, {api.Path{}, api.Path{L: []api.Cross{}}, true}, {back(), api.Path{Back: true, L: make([]api.Cross, 0, 9)}, true},
		{out(up(5)), out(up(5)), true}, {out(up(5)), back(up(5)), false}, {out(up(5)), out(down(5)), false}, {out(up(5)), out(up(6)), false}, {out(up(5)), out(), false}, {back(up(5)), back(), false},
		{out(up(5), down(5)), out(up(5), down(5)), true}, {out(up(5), down(5)), out(down(5), up(5)), false}, {out(up(5), down(5)), out(up(5)), false}, {out(up(5), up(6)), out(up(6), up(5)), false}, {out(up(5), up(6)), out(up(5), up(6), up(7)), false},
		// Such as may not be.
		{out(up(0)), out(up(0)), true}, {out(up(0)), out(down(0)), false}, {out(up(0)), out(), false}, {out(up(5), up(5)), out(up(5), up(5)), true}, {out(up(5), up(5)), out(up(5)), false}, {out(run(1000)...), out(run(1000)...), true}, {out(run(1000)...), out(run(999)...), false},
	} {
		for _, is := range []bool{path.Same(c.a, c.b), path.Same(c.b, c.a)} {
			if is != c.want {
				t.Errorf("Same(%v, %v): %v", brief(c.a), brief(c.b), is)
			}
		}
	}
	l := samples()[:90]
	for _, a := range l {
		for _, b := range l {
			if is := path.Same(a, b); is != alike(a, b) {
				t.Errorf("Same(%v, %v): %v", a, b, is)
			}
		}
		b := api.Path{Back: a.Back, L: slices.Clone(a.L)}
		if !path.Same(a, b) {
			t.Errorf("Same(%v, a copy): false", a)
		}
		for i := range b.L {
			own := b.L[i]
			for _, x := range []api.Cross{{Gate: own.Gate, Up: !own.Up}, {Gate: own.Gate ^ 1, Up: own.Up}, {Gate: own.Gate ^ 1<<31, Up: own.Up}} {
				if b.L[i] = x; path.Same(a, b) {
					t.Errorf("Same(%v, %v): true", a, b)
				}
			}
			b.L[i] = own
		}
	}
}

// P7.4

func TestOfOfItem(t *testing.T) {
	seen := map[string]api.Path{}
	for _, p := range append(samples(), anyPaths(3000)...) {
		x, e := path.Item(p)
		q, f := path.Of(x)
		if !alike(q, p) || e != api.OK || f != api.OK {
			t.Errorf("Of of Item(%v): %v %v %v", p, q, e, f)
		}
		// Unlike paths have unlike items.
		b, _ := cbor.Encode(x)
		if other, is := seen[string(b)]; is && !alike(other, p) {
			t.Errorf("%v and %v: % x", p, other, b)
		}
		seen[string(b)] = p
	}
}

// told is the path of an item that was read off bytes, by another road.
func told(x api.Item) (api.Path, bool) {
	is := func(x, y api.Item) bool { return reflect.DeepEqual(x, y) }
	isTruth := func(x api.Item) bool { return is(x, truth(0)) || is(x, truth(1)) }
	if x.Kind != api.ItemList || len(x.L) == 0 || !isTruth(x.L[0]) {
		return api.Path{}, false
	}
	p := api.Path{Back: x.L[0].N > 0}
	for _, y := range x.L[1:] {
		if y.Kind != api.ItemList || len(y.L) != 2 || !is(y.L[0], number(y.L[0].N)) || y.L[0].N > 1<<32-1 || !isTruth(y.L[1]) {
			return api.Path{}, false
		}
		p.L = append(p.L, api.Cross{Gate: uint32(y.L[0].N), Up: y.L[1].N > 0})
	}
	return p, may(p)
}

// goesBack holds Of of an item's bytes against what the other road tells of it, and Item of that against the bytes.
func goesBack(t *testing.T, b []byte) {
	t.Helper()
	x, e := cbor.Decode(b)
	if e != api.OK {
		return
	}
	want, is := told(x)
	if !is {
		unread(t, x)
		return
	}
	p, e := path.Of(x)
	if !alike(p, want) || e != api.OK {
		t.Errorf("Of(% x): %v %v, not %v", b, p, e, want)
	}
	y, e := path.Item(p)
	if c, f := cbor.Encode(y); !cbor.Same(x, y) || e != api.OK || !bytes.Equal(b, c) || f != api.OK {
		t.Errorf("Item of Of(% x): %v %v, % x", b, y, e, c)
	}
}

func TestItemOfOf(t *testing.T) {
	for _, p := range slices.Concat(samples(), noes()) {
		goesBack(t, laid(p))
		// One bit is another one.
		b := laid(api.Path{Back: p.Back, L: p.L[:min(len(p.L), 3)]})
		for i := range 8 * len(b) {
			b[i/8] ^= 1 << (i % 8)
			goesBack(t, b)
			b[i/8] ^= 1 << (i % 8)
		}
	}
	// A few are.
	chance := rand.New(rand.NewSource(8))
	for _, p := range anyPaths(20000) {
		b := laid(p)
		for range 1 + chance.Intn(3) {
			b[chance.Intn(len(b))] ^= byte(1 << chance.Intn(8))
		}
		goesBack(t, b)
	}
}

func FuzzOf(f *testing.F) {
	for _, p := range samples() {
		f.Add(laid(p))
	}
	f.Fuzz(func(t *testing.T, b []byte) { goesBack(t, b) })
}

func TestHoweverOftenWithIsAsked(t *testing.T) {
	chance := rand.New(rand.NewSource(9))
	for _, gates := range []int{1, 2, 5, 31, 32, 33, 40, 1000} {
		for _, p := range []api.Path{out(), back()} {
			was := p.Back
			for range 5000 {
				x := api.Cross{Gate: uint32(chance.Intn(gates + 1)), Up: chance.Intn(2) == 0}
				q, e := path.With(p, x)
				if e != api.OK {
					if !none(q) {
						t.Fatalf("With(%v, %v): %v %v", p, x, q, e)
					}
					continue
				}
				p = q
				if !may(p) || p.Back != was || path.Check(p) != api.OK {
					t.Fatalf("of %d gates: %v", gates, p)
				}
				for gate, n := range path.Gates(p) {
					if n > 2 || n == 2 && !(path.Has(p, up(gate)) && path.Has(p, down(gate))) {
						t.Fatalf("of gate %d: %d, in %v", gate, n, p)
					}
				}
			}
			if most := min(64, 2*gates); len(p.L) != most {
				t.Errorf("of %d gates: %d crossings, not %d", gates, len(p.L), most)
			}
		}
	}
}

// The rules that hold everywhere.

func TestWhatIsHandedInIsNotChangedAndNotKept(t *testing.T) {
	room := append(run(10), up(100), up(101), up(102))
	own := slices.Clone(room)
	p := back(room[:10]...)
	x, _ := path.Item(p)
	a, _ := path.With(p, up(50))
	b, _ := path.With(p, down(50))
	all := path.Gates(p)
	path.Check(p)
	path.Has(p, up(100))
	path.Turned(p)
	path.Same(p, p)
	for range all {
	}
	if !slices.Equal(room, own) {
		t.Errorf("changed to %v", room)
	}
	// The answers share nothing with it, nor with one another.
	clear(room)
	if !alike(a, back(append(run(10), up(50))...)) || !alike(b, back(append(run(10), down(50))...)) {
		t.Errorf("behind a change: %v and %v", a, b)
	}
	if b, _ := cbor.Encode(x); !bytes.Equal(b, laid(back(run(10)...))) {
		t.Errorf("behind a change: % x", b)
	}
	clear(a.L[:cap(a.L)])
	if !alike(b, back(append(run(10), down(50))...)) {
		t.Errorf("behind a change of another answer: %v", b)
	}
}

func TestWithOfOneThatHasRoom(t *testing.T) {
	// What With answered may have room behind it; two that go on from there go on apart.
	p := out()
	for _, x := range run(63) {
		p, _ = path.With(p, x)
		a, _ := path.With(p, up(1000))
		b, _ := path.With(p, down(1000))
		want := len(p.L)
		if len(a.L) != want+1 || a.L[want] != up(1000) || b.L[want] != down(1000) {
			t.Fatalf("behind %d: %v and %v", want, a, b)
		}
	}
	if !alike(p, out(run(63)...)) {
		t.Errorf("all: %v", p)
	}
}

func TestItemsAreNotChangedAndNotKept(t *testing.T) {
	for _, x := range []api.Item{list(truth(1), cross(5, 1), cross(5, 0)), list(truth(1), cross(5, 1), cross(5, 1)), list(number(1))} {
		room := append(slices.Clone(x.L), number(77), number(78))
		x.L = room[:len(x.L)]
		own, _ := cbor.Encode(list(room...))
		p, e := path.Of(x)
		q := api.Path{Back: p.Back, L: slices.Clone(p.L)}
		if b, _ := cbor.Encode(list(room...)); !bytes.Equal(b, own) {
			t.Errorf("Of changed it: % x", b)
		}
		for _, y := range room {
			clear(y.L)
		}
		clear(room)
		if !alike(p, q) {
			t.Errorf("behind a change: %v %v, not %v", p, e, q)
		}
	}
}

func TestItemsAreNewMemory(t *testing.T) {
	p := back(run(5)...)
	a, _ := path.Item(p)
	b, _ := path.Item(p)
	want := laid(p)
	// A crossing's list that grows doesn't grow upon another one's.
	for i := range a.L {
		_ = append(a.L[i].L, number(99))
	}
	if c, _ := cbor.Encode(a); !bytes.Equal(c, want) {
		t.Errorf("within itself: % x", c)
	}
	for _, y := range a.L {
		clear(y.L[:cap(y.L)])
	}
	clear(a.L[:cap(a.L)])
	if c, _ := cbor.Encode(b); !bytes.Equal(c, want) {
		t.Errorf("behind a change of another answer: % x", c)
	}
	c, _ := path.Of(b)
	d, _ := path.Of(b)
	clear(c.L[:cap(c.L)])
	if !alike(d, p) {
		t.Errorf("Of behind a change of another answer: %v", d)
	}
	e, _ := path.Turned(p)
	if !reflect.DeepEqual(p, back(run(5)...)) || !alike(e, back()) {
		t.Errorf("Turned: %v, of %v", e, p)
	}
}
