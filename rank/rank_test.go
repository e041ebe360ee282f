package rank_test

import (
	"fmt"
	"math"
	"math/rand"
	"slices"
	"testing"

	"packsaddle/api"
	"packsaddle/rank"
)

// named is a name of that number; the greater ones differ in other parts than the lesser ones.
func named(n int) api.Name {
	x := api.Name{Source: api.Endpoint{Node: 1}}
	switch n % 4 {
	case 0:
		x.Seq = uint32(n)
	case 1:
		x.Time = uint64(n)
	case 2:
		x.Source.Node = uint32(n)
	case 3:
		x.Source.Service = uint32(n)
	}
	return x
}

// wait is what waits: a name of that number.
func wait(n int, node uint32, rank, size int) api.Wait {
	return api.Wait{Name: named(n), Node: node, Rank: rank, Size: size}
}

// must gives up at what was refused.
func must(e api.Errno) {
	if e != api.OK {
		panic(e)
	}
}

// made is a new line in which these wait.
func made(most int, l ...api.Wait) *rank.Line {
	r, e := rank.New(most)
	if r == nil || e != api.OK {
		panic(e)
	}
	for _, x := range l {
		must(r.Put(x))
	}
	return r
}

// most32 and most64 are the greatest numbers.
const (
	most32 = math.MaxUint32
	most64 = math.MaxUint64
)

// wrongNames are names that may not be.
func wrongNames() []api.Name {
	return []api.Name{
		{},
		{Time: 1, Seq: 1},
		{Source: api.Endpoint{Service: 1}},
		{Source: api.Endpoint{Service: most32}, Time: 5, Seq: 6},
		{Source: api.Endpoint{Node: 1}, Time: api.Forever + 1},
		{Source: api.Endpoint{Node: most32}, Time: most64},
		{Source: api.Endpoint{Node: 7, Service: 7}, Time: 1 << 63, Seq: 7},
	}
}

// wrongs are what may not wait, one thing being wrong in each.
func wrongs() []api.Wait {
	var l []api.Wait
	for _, n := range wrongNames() {
		l = append(l, api.Wait{Name: n, Node: 5, Rank: 1, Size: 10})
	}
	for _, r := range []int{-1, -2, 3, 4, 128, 256, 1 << 16, 1 << 32, math.MaxInt32, math.MinInt32, math.MaxInt, math.MinInt} {
		l = append(l, wait(4, 5, r, 10))
	}
	for _, s := range []int{0, -1, -10, 65537, 65538, 1 << 17, 1 << 32, 1<<32 + 1, math.MaxInt32, math.MinInt32, math.MaxInt, math.MinInt} {
		l = append(l, wait(4, 5, 1, s))
	}
	return append(l, wait(4, 0, 1, 10))
}

// model is a line by another road: all that waits, as it came.
type model struct {
	l    []api.Wait
	most int
}

func (m *model) at(n api.Name) int {
	return slices.IndexFunc(m.l, func(x api.Wait) bool { return x.Name == n })
}

func mayBe(n api.Name) bool { return n.Source.Node >= 1 && n.Time <= 1<<62-1 }

func (m *model) put(x api.Wait) api.Errno {
	switch {
	case !mayBe(x.Name) || x.Node == 0 || x.Rank < 0 || x.Rank > 2 || x.Size < 1 || x.Size > 65536:
		return api.ErrArg
	case m.at(x.Name) >= 0:
		return api.ErrTwice
	case len(m.l) >= m.most:
		return api.ErrWait
	}
	m.l = append(m.l, x)
	return api.OK
}

func (m *model) drop(n api.Name) (api.Wait, api.Errno) {
	at := m.at(n)
	if !mayBe(n) {
		return api.Wait{}, api.ErrArg
	}
	if at < 0 {
		return api.Wait{}, api.ErrNone
	}
	x := m.l[at]
	m.l = slices.Concat(m.l[:at], m.l[at+1:])
	return x, api.OK
}

func (m *model) move(n api.Name, node uint32) api.Errno {
	if !mayBe(n) || node == 0 {
		return api.ErrArg
	}
	x, e := m.drop(n)
	if e == api.OK {
		x.Node = node
		m.l = append(m.l, x)
	}
	return e
}

// all is a neighbour's order.
func (m *model) all(node uint32) []api.Wait {
	var l []api.Wait
	for rank := 2; rank >= 0; rank-- {
		for _, x := range m.l {
			if x.Node == node && x.Rank == rank {
				l = append(l, x)
			}
		}
	}
	return l
}

func (m *model) get(n api.Name) (api.Wait, int, api.Errno) {
	if !mayBe(n) {
		return api.Wait{}, 0, api.ErrArg
	}
	at := m.at(n)
	if at < 0 {
		return api.Wait{}, 0, api.ErrNone
	}
	return m.l[at], slices.Index(m.all(m.l[at].Node), m.l[at]), api.OK
}

func (m *model) first(node uint32) (api.Wait, api.Errno) {
	if node == 0 {
		return api.Wait{}, api.ErrArg
	}
	if l := m.all(node); len(l) > 0 {
		return l[0], api.OK
	}
	return api.Wait{}, api.ErrNone
}

// load is a neighbour, and the sum of what waits for it.
type load struct {
	node uint32
	sum  int
}

func (m *model) nodes() []load {
	var l []load
	for _, x := range m.l {
		at, is := slices.BinarySearchFunc(l, x.Node, func(y load, node uint32) int {
			return int(int64(y.node) - int64(node))
		})
		if !is {
			l = slices.Insert(l, at, load{node: x.Node})
		}
		l[at].sum += x.Size
	}
	return l
}

// all and loads are what All and Nodes go over.
func all(l *rank.Line, node uint32) []api.Wait { return slices.Collect(l.All(node)) }

func loads(l *rank.Line) []load {
	var all []load
	for node, sum := range l.Nodes() {
		all = append(all, load{node, sum})
	}
	return all
}

// as tells a fault if a line isn't as its model.
func (m *model) as(t *testing.T, what string, l *rank.Line) {
	t.Helper()
	if names, most := l.Len(); names != len(m.l) || most != m.most {
		t.Fatalf("%s: Len %d %d, want %d %d", what, names, most, len(m.l), m.most)
	}
	if got := loads(l); !slices.Equal(got, m.nodes()) {
		t.Fatalf("%s: Nodes %v, want %v", what, got, m.nodes())
	}
	for _, x := range append(m.nodes(), load{node: 0}, load{node: 1}, load{node: 77}, load{node: most32}) {
		if got := all(l, x.node); !slices.Equal(got, m.all(x.node)) {
			t.Fatalf("%s: All(%d) %v, want %v", what, x.node, got, m.all(x.node))
		}
		y, e := l.First(x.node)
		if z, f := m.first(x.node); y != z || e != f {
			t.Fatalf("%s: First(%d) %v %v, want %v %v", what, x.node, y, e, z, f)
		}
	}
	for _, x := range m.l {
		m.asked(t, what, l, x.Name)
	}
}

// asked tells a fault if a name doesn't wait as in the model.
func (m *model) asked(t *testing.T, what string, l *rank.Line, n api.Name) {
	t.Helper()
	x, ahead, e := l.Get(n)
	if y, want, f := m.get(n); x != y || ahead != want || e != f {
		t.Fatalf("%s: Get(%v) %v %d %v, want %v %d %v", what, n, x, ahead, e, y, want, f)
	}
}

// modelled is a line's of that bound, in which these wait.
func modelled(most int, l ...api.Wait) *model {
	m := &model{most: most}
	for _, x := range l {
		must(m.put(x))
	}
	return m
}

// some are a few that wait, in queues of several neighbours.
func some() []api.Wait {
	return []api.Wait{
		wait(1, 5, 0, 10), wait(2, 5, 2, 20), wait(3, 6, 0, 30), wait(4, 5, 1, 40), wait(5, 5, 2, 50),
		wait(6, 6, 1, 60), wait(7, most32, 2, 65536), wait(8, 5, 0, 1), wait(9, 1, 1, 65536), wait(10, 5, 1, 2),
	}
}

// P14.1

func TestNew(t *testing.T) {
	for _, n := range []int{0, 1, 2, 3, 64, 100, 4095, 4096} {
		l, e := rank.New(n)
		if l == nil || e != api.OK {
			t.Fatalf("New(%d): %v %v", n, l, e)
		}
		modelled(n).as(t, fmt.Sprint("New ", n), l)
	}
	for _, n := range []int{-1, -2, -4096, 4097, 4098, 8192, 1 << 16, 1 << 32, 1<<32 + 1, math.MaxInt32, math.MinInt32, math.MaxInt, math.MinInt} {
		if l, e := rank.New(n); l != nil || e != api.ErrArg {
			t.Errorf("New(%d): %v %v", n, l, e)
		}
	}
}

func TestPutAsTheLastOne(t *testing.T) {
	l, m := made(20), modelled(20)
	for i, x := range some() {
		if e := l.Put(x); e != api.OK {
			t.Fatalf("Put(%v): %v", x, e)
		}
		must(m.put(x))
		m.as(t, fmt.Sprint("put ", i), l)
	}
	numbers := func(node uint32) (got []int) {
		for x := range l.All(node) {
			got = append(got, slices.IndexFunc(some(), func(y api.Wait) bool { return x == y })+1)
		}
		return got
	}
	if got := numbers(5); !slices.Equal(got, []int{2, 5, 4, 10, 1, 8}) {
		t.Errorf("5: %v", got)
	}
	if got := numbers(6); !slices.Equal(got, []int{6, 3}) {
		t.Errorf("6: %v", got)
	}
}

// The least and the greatest parts that there may be.
func TestPutAtTheBounds(t *testing.T) {
	l, m := made(100), modelled(100)
	for _, n := range []api.Name{
		{Source: api.Endpoint{Node: 1}},
		{Source: api.Endpoint{Node: most32}},
		{Source: api.Endpoint{Node: 1, Service: most32}},
		{Source: api.Endpoint{Node: 1}, Time: api.Forever},
		{Source: api.Endpoint{Node: 1}, Seq: most32},
		{Source: api.Endpoint{Node: most32, Service: most32}, Time: api.Forever, Seq: most32},
	} {
		x := api.Wait{Name: n, Node: 1, Size: 65536}
		if len(m.l)%2 == 1 {
			x = api.Wait{Name: n, Node: most32, Rank: 2, Size: 1}
		}
		if e := l.Put(x); e != api.OK {
			t.Fatalf("Put(%v): %v", x, e)
		}
		must(m.put(x))
		m.as(t, "bounds", l)
	}
}

func TestPutWrong(t *testing.T) {
	l, m := made(20, some()...), modelled(20, some()...)
	for _, x := range wrongs() {
		if e := l.Put(x); e != api.ErrArg {
			t.Errorf("Put(%v): %v", x, e)
		}
		m.as(t, fmt.Sprint("wrong ", x), l)
	}
}

// What waits is not put again, whatever else is told of it.
func TestPutTwice(t *testing.T) {
	l, m := made(20, some()...), modelled(20, some()...)
	for _, x := range some() {
		for _, y := range []api.Wait{x, {Name: x.Name, Node: x.Node + 1, Rank: 1, Size: 1}, {Name: x.Name, Node: 77, Rank: (x.Rank + 1) % 3, Size: 77}, {Name: x.Name, Node: x.Node, Rank: x.Rank, Size: 3}} {
			if y.Node == 0 {
				y.Node = 1
			}
			if e := l.Put(y); e != api.ErrTwice {
				t.Errorf("Put(%v): %v", y, e)
			}
		}
	}
	m.as(t, "twice", l)
}

// Names that are unlike in one part alone are others.
func TestPutUnlikeNames(t *testing.T) {
	base := api.Name{Source: api.Endpoint{Node: 3, Service: 4}, Time: 5, Seq: 6}
	l, m := made(9), modelled(9)
	for i := range 5 {
		n := base
		switch i {
		case 0:
			n.Source.Node++
		case 1:
			n.Source.Service++
		case 2:
			n.Time++
		case 3:
			n.Seq++
		}
		x := api.Wait{Name: n, Node: 5, Rank: 1, Size: 7}
		if e := l.Put(x); e != api.OK {
			t.Errorf("Put(%v): %v", x, e)
		}
		must(m.put(x))
	}
	m.as(t, "unlike", l)
}

func TestPutMoreThanMayBe(t *testing.T) {
	for most := range len(some()) {
		l, m := made(most, some()[:most]...), modelled(most, some()[:most]...)
		for _, x := range some()[most:] {
			if e := l.Put(x); e != api.ErrWait {
				t.Errorf("bound %d: Put(%v): %v", most, x, e)
			}
		}
		m.as(t, fmt.Sprint("bound ", most), l)
		if most == 0 {
			continue
		}
		// There is room for another one as soon as one goes, and no room by one that moves.
		must(l.Move(named(1), 77))
		if e := l.Put(wait(50, 5, 0, 1)); e != api.ErrWait {
			t.Errorf("bound %d: moved: %v", most, e)
		}
		_, e := l.Drop(named(1))
		must(e)
		if e := l.Put(wait(50, 5, 0, 1)); e != api.OK {
			t.Errorf("bound %d: dropped: %v", most, e)
		}
		if e := l.Put(wait(51, 5, 0, 1)); e != api.ErrWait {
			t.Errorf("bound %d: full again: %v", most, e)
		}
	}
}

// As many as there may be at all: 4096.
func TestMaxWait(t *testing.T) {
	l, m := made(4096), modelled(4096)
	for i := range 4096 {
		x := wait(4*i, uint32(1+i%7), i%3, 1+i)
		if e := l.Put(x); e != api.OK {
			t.Fatalf("Put %d: %v", i, e)
		}
		m.l = append(m.l, x)
	}
	if e := l.Put(wait(5, 5, 0, 1)); e != api.ErrWait {
		t.Errorf("one more: %v", e)
	}
	if e := l.Put(wait(4, 5, 0, 1)); e != api.ErrTwice {
		t.Errorf("again: %v", e)
	}
	if got := loads(l); !slices.Equal(got, m.nodes()) {
		t.Errorf("Nodes %v, want %v", got, m.nodes())
	}
	for node := uint32(1); node <= 8; node++ {
		want := m.all(node)
		if got := all(l, node); !slices.Equal(got, want) {
			t.Errorf("All(%d) differs", node)
		}
		for i, x := range want {
			if got, ahead, e := l.Get(x.Name); got != x || ahead != i || e != api.OK {
				t.Fatalf("Get(%v): %v %d %v, want %d", x.Name, got, ahead, e, i)
			}
		}
	}
	if names, most := l.Len(); names != 4096 || most != 4096 {
		t.Errorf("Len %d %d", names, most)
	}
	for i := range 4096 {
		if x, e := l.Drop(named(4 * i)); x != m.l[i] || e != api.OK {
			t.Fatalf("Drop %d: %v %v", i, x, e)
		}
	}
	modelled(4096).as(t, "dropped", l)
}

// The sum is that of as many as may wait, of the greatest size.
func TestGreatestSum(t *testing.T) {
	l := made(4096)
	for i := range 4096 {
		must(l.Put(wait(4*i, 9, i%3, 65536)))
	}
	if got := loads(l); !slices.Equal(got, []load{{9, 4096 * 65536}}) {
		t.Errorf("%v", got)
	}
}

func TestDrop(t *testing.T) {
	for i := range some() {
		l, m := made(20, some()...), modelled(20, some()...)
		for j := range some() {
			n := some()[(i+3*j)%len(some())].Name
			x, e := l.Drop(n)
			if y, f := m.drop(n); x != y || e != f || e != api.OK {
				t.Fatalf("Drop(%v): %v %v, want %v %v", n, x, e, y, f)
			}
			m.as(t, fmt.Sprint("drop ", i, j), l)
			if x, e := l.Drop(n); x != (api.Wait{}) || e != api.ErrNone {
				t.Errorf("Drop(%v) again: %v %v", n, x, e)
			}
			m.asked(t, "dropped", l, n)
		}
	}
}

// What was dropped may come again, otherwise, too: it is the last one then.
func TestDropAndPut(t *testing.T) {
	l, m := made(20, some()...), modelled(20, some()...)
	for i, x := range some() {
		_, e := l.Drop(x.Name)
		must(e)
		_, e = m.drop(x.Name)
		must(e)
		if i%2 == 1 {
			x.Node, x.Rank, x.Size = 6, i%3, 3*i
		}
		must(l.Put(x))
		must(m.put(x))
		m.as(t, fmt.Sprint("again ", i), l)
	}
}

func TestWrongNames(t *testing.T) {
	l, m := made(20, some()...), modelled(20, some()...)
	for _, n := range wrongNames() {
		if x, e := l.Drop(n); x != (api.Wait{}) || e != api.ErrArg {
			t.Errorf("Drop(%v): %v %v", n, x, e)
		}
		if x, ahead, e := l.Get(n); x != (api.Wait{}) || ahead != 0 || e != api.ErrArg {
			t.Errorf("Get(%v): %v %d %v", n, x, ahead, e)
		}
		if e := l.Move(n, 5); e != api.ErrArg {
			t.Errorf("Move(%v): %v", n, e)
		}
	}
	for _, n := range []api.Name{named(11), named(4000), {Source: api.Endpoint{Node: most32, Service: most32}, Time: api.Forever, Seq: most32}} {
		if x, e := l.Drop(n); x != (api.Wait{}) || e != api.ErrNone {
			t.Errorf("Drop(%v): %v %v", n, x, e)
		}
		if x, ahead, e := l.Get(n); x != (api.Wait{}) || ahead != 0 || e != api.ErrNone {
			t.Errorf("Get(%v): %v %d %v", n, x, ahead, e)
		}
		if e := l.Move(n, 5); e != api.ErrNone {
			t.Errorf("Move(%v): %v", n, e)
		}
	}
	m.as(t, "wrong names", l)
}

func TestGet(t *testing.T) {
	l := made(20, some()...)
	for i, ahead := range []int{4, 0, 1, 2, 1, 0, 0, 5, 0, 3} {
		want := some()[i]
		if x, n, e := l.Get(want.Name); x != want || n != ahead || e != api.OK {
			t.Errorf("Get(%v): %v %d %v, want %d", want.Name, x, n, e, ahead)
		}
	}
	// Asking changes nothing.
	modelled(20, some()...).as(t, "got", l)
}

func TestFirst(t *testing.T) {
	l := made(20, some()...)
	for node, at := range map[uint32]int{5: 2, 6: 6, most32: 7, 1: 9} {
		if x, e := l.First(node); x != some()[at-1] || e != api.OK {
			t.Errorf("First(%d): %v %v", node, x, e)
		}
	}
	for _, node := range []uint32{2, 4, 7, 77, most32 - 1} {
		if x, e := l.First(node); x != (api.Wait{}) || e != api.ErrNone {
			t.Errorf("First(%d): %v %v", node, x, e)
		}
	}
	if x, e := l.First(0); x != (api.Wait{}) || e != api.ErrArg {
		t.Errorf("First(0): %v %v", x, e)
	}
	modelled(20, some()...).as(t, "first", l)
	// It is one of each rank, as the greater ones go.
	for _, at := range []int{2, 5, 4, 10, 1, 8} {
		x, e := l.First(5)
		if x != some()[at-1] || e != api.OK {
			t.Errorf("%d: %v %v", at, x, e)
		}
		_, e = l.Drop(x.Name)
		must(e)
	}
	if x, e := l.First(5); x != (api.Wait{}) || e != api.ErrNone {
		t.Errorf("none: %v %v", x, e)
	}
}

func TestMove(t *testing.T) {
	l, m := made(20, some()...), modelled(20, some()...)
	for i, node := range []uint32{6, 6, 5, 77, most32, 1, 5, 6, 6, 5} {
		n := some()[i].Name
		if e := l.Move(n, node); e != api.OK {
			t.Fatalf("Move(%v, %d): %v", n, node, e)
		}
		must(m.move(n, node))
		m.as(t, fmt.Sprint("moved ", i), l)
	}
}

// What is moved to where it waits is the last one of its queue, and its queue alone.
func TestMoveInPlace(t *testing.T) {
	l, m := made(20, some()...), modelled(20, some()...)
	must(l.Move(named(2), 5))
	must(m.move(named(2), 5))
	m.as(t, "in place", l)
	if x, ahead, e := l.Get(named(2)); x != some()[1] || ahead != 1 || e != api.OK {
		t.Errorf("%v %d %v", x, ahead, e)
	}
	// Of a queue's only one nothing changes.
	must(l.Move(named(7), most32))
	m.as(t, "alone", l)
}

func TestMoveWrong(t *testing.T) {
	l, m := made(20, some()...), modelled(20, some()...)
	if e := l.Move(named(1), 0); e != api.ErrArg {
		t.Errorf("Move to 0: %v", e)
	}
	if e := l.Move(named(11), 0); e != api.ErrArg {
		t.Errorf("Move of none to 0: %v", e)
	}
	if e := l.Move(named(11), 6); e != api.ErrNone {
		t.Errorf("Move of none: %v", e)
	}
	m.as(t, "not moved", l)
}

// A full line moves its names all the same.
func TestMoveInFull(t *testing.T) {
	l, m := made(10, some()...), modelled(10, some()...)
	for _, x := range some() {
		if e := l.Move(x.Name, 9); e != api.OK {
			t.Errorf("Move(%v): %v", x.Name, e)
		}
		must(m.move(x.Name, 9))
	}
	m.as(t, "full", l)
}

// The errors come in the order in which the chapter names them.
func TestOrderOfErrors(t *testing.T) {
	full := made(1, wait(1, 5, 0, 10))
	for _, x := range wrongs() {
		if e := full.Put(x); e != api.ErrArg {
			t.Errorf("full: Put(%v): %v", x, e)
		}
	}
	for _, x := range []api.Wait{wait(1, 0, 0, 10), wait(1, 5, 3, 10), wait(1, 5, 0, 0)} {
		if e := full.Put(x); e != api.ErrArg {
			t.Errorf("twice: Put(%v): %v", x, e)
		}
	}
	if e := full.Put(wait(1, 5, 0, 10)); e != api.ErrTwice {
		t.Errorf("full and twice: %v", e)
	}
	if e := full.Put(wait(2, 5, 0, 10)); e != api.ErrWait {
		t.Errorf("full: %v", e)
	}
	if e := made(0).Put(wait(2, 0, 0, 10)); e != api.ErrArg {
		t.Errorf("bound 0: %v", e)
	}
	if e := made(0).Put(wait(2, 5, 0, 10)); e != api.ErrWait {
		t.Errorf("bound 0: %v", e)
	}
}

// P14.2

func TestAll(t *testing.T) {
	l := made(20, some()...)
	for _, node := range []uint32{0, 2, 4, 7, most32 - 1} {
		if got := all(l, node); len(got) != 0 {
			t.Errorf("All(%d): %v", node, got)
		}
	}
	seq := l.All(5)
	want := modelled(20, some()...).all(5)
	for i := range 3 {
		if got := slices.Collect(seq); !slices.Equal(got, want) {
			t.Errorf("time %d: %v", i, got)
		}
	}
	for leave := range len(want) {
		var got []api.Wait
		for x := range seq {
			got = append(got, x)
			if len(got) > leave {
				break
			}
		}
		if !slices.Equal(got, want[:leave+1]) {
			t.Errorf("left behind %d: %v", leave, got)
		}
	}
}

func TestNodes(t *testing.T) {
	if got := loads(made(20)); len(got) != 0 {
		t.Errorf("of none: %v", got)
	}
	l := made(20, some()...)
	want := []load{{1, 65536}, {5, 123}, {6, 90}, {most32, 65536}}
	seq := l.Nodes()
	for leave := range len(want) {
		var got []load
		for node, sum := range seq {
			got = append(got, load{node, sum})
			if len(got) > leave {
				break
			}
		}
		if !slices.Equal(got, want[:leave+1]) {
			t.Errorf("left behind %d: %v", leave, got)
		}
	}
	for i := range 3 {
		var got []load
		for node, sum := range seq {
			got = append(got, load{node, sum})
		}
		if !slices.Equal(got, want) {
			t.Errorf("time %d: %v", i, got)
		}
	}
}

// One for whom nothing waits any more isn't told; one of whose queues some are empty is.
func TestNodesAsTheyGo(t *testing.T) {
	l := made(20, wait(1, 5, 0, 10), wait(2, 5, 2, 20), wait(3, 6, 1, 30))
	drop := func(n int, want ...load) {
		t.Helper()
		_, e := l.Drop(named(n))
		must(e)
		if got := loads(l); !slices.Equal(got, want) {
			t.Errorf("%v, want %v", got, want)
		}
	}
	must(l.Move(named(3), 4))
	drop(2, load{4, 30}, load{5, 10})
	drop(1, load{4, 30})
	drop(3)
}

// Many neighbours are told rising, however they came.
func TestNodesRise(t *testing.T) {
	r := rand.New(rand.NewSource(3))
	l, m := made(4096), modelled(4096)
	for i, at := range r.Perm(600) {
		x := wait(4*i, uint32(1+at*7157827), i%3, 1+i)
		must(l.Put(x))
		m.l = append(m.l, x)
	}
	if got := loads(l); !slices.Equal(got, m.nodes()) || len(got) != 600 {
		t.Errorf("%v, want %v", got, m.nodes())
	}
}

// What is gone over is as it was when it was asked for.
func TestAsAskedFor(t *testing.T) {
	l := made(20, some()...)
	names, nodes, none := l.All(5), l.Nodes(), l.All(77)
	m := modelled(20, some()...)
	for _, x := range some() {
		must(l.Move(x.Name, 77))
	}
	_, e := l.Drop(named(1))
	must(e)
	must(l.Put(wait(50, 5, 2, 1)))
	if got := slices.Collect(names); !slices.Equal(got, m.all(5)) {
		t.Errorf("All %v, want %v", got, m.all(5))
	}
	if got := slices.Collect(none); len(got) != 0 {
		t.Errorf("All %v", got)
	}
	var got []load
	for node, sum := range nodes {
		got = append(got, load{node, sum})
	}
	if !slices.Equal(got, m.nodes()) {
		t.Errorf("Nodes %v, want %v", got, m.nodes())
	}
}

// What is gone over may be dropped, moved and put meanwhile.
func TestChangedMeanwhile(t *testing.T) {
	l, m := made(20, some()...), modelled(20, some()...)
	want := m.all(5)
	var got []api.Wait
	for x := range l.All(5) {
		got = append(got, x)
		must(l.Move(x.Name, 6))
		must(m.move(x.Name, 6))
		_, e := l.Drop(x.Name)
		must(e)
		_, e = m.drop(x.Name)
		must(e)
		must(l.Put(wait(100+len(got), 5, 2, 1)))
		must(m.put(wait(100+len(got), 5, 2, 1)))
	}
	if !slices.Equal(got, want) {
		t.Errorf("%v, want %v", got, want)
	}
	m.as(t, "meanwhile", l)
	var nodes []load
	before := m.nodes()
	for node, sum := range l.Nodes() {
		nodes = append(nodes, load{node, sum})
		for x := range l.All(node) {
			must(l.Move(x.Name, 9))
		}
	}
	if !slices.Equal(nodes, before) {
		t.Errorf("%v, want %v", nodes, before)
	}
}

func TestLen(t *testing.T) {
	l := made(3)
	check := func(want int) {
		t.Helper()
		if names, most := l.Len(); names != want || most != 3 {
			t.Errorf("%d %d, want %d", names, most, want)
		}
	}
	check(0)
	must(l.Put(wait(1, 5, 0, 10)))
	check(1)
	must(l.Put(wait(2, 5, 0, 10)))
	must(l.Move(wait(2, 5, 0, 10).Name, 6))
	check(2)
	_, e := l.Drop(named(1))
	must(e)
	check(1)
}

// A copy, and what it is a copy of, go on apart.
func TestCopy(t *testing.T) {
	for _, most := range []int{10, 20} {
		l, m := made(most, some()...), modelled(most, some()...)
		c := l.Copy()
		if c == l || !rank.Same(c, l) {
			t.Fatal("not the same")
		}
		m.as(t, "copy", c)
		for i, x := range some() {
			switch i % 3 {
			case 0:
				_, e := c.Drop(x.Name)
				must(e)
			case 1:
				must(c.Move(x.Name, x.Node))
			default:
				must(c.Move(x.Name, 5))
			}
			m.as(t, "copied", l)
		}
		must(c.Put(wait(60, 5, 2, 1)))
		m.as(t, "copied", l)
		changed := modelled(most)
		for _, load := range loads(c) {
			for x := range c.All(load.node) {
				changed.l = append(changed.l, x)
			}
		}
		for _, x := range some() {
			_, e := l.Drop(x.Name)
			must(e)
			changed.as(t, "the copy", c)
		}
		must(l.Put(wait(61, 5, 2, 1)))
		changed.as(t, "the copy", c)
	}
	if c := made(0).Copy(); c == nil || !rank.Same(c, made(0)) {
		t.Error("of the bound 0")
	}
}

// Copies of one line that both go on write nothing into one another.
func TestCopiesAppend(t *testing.T) {
	l := made(20, some()...)
	for range 5 {
		a, b := l.Copy(), l.Copy()
		must(a.Put(wait(60, 5, 1, 1)))
		must(b.Put(wait(61, 5, 1, 2)))
		must(l.Put(wait(62, 5, 1, 3)))
		for i, x := range []*rank.Line{a, b, l} {
			want := modelled(20, some()...)
			must(want.put(wait(60+i, 5, 1, 1+i)))
			want.as(t, fmt.Sprint("apart ", i), x)
		}
		_, e := l.Drop(named(62))
		must(e)
	}
}

func TestSame(t *testing.T) {
	l := made(20, some()...)
	if !rank.Same(l, l) || !rank.Same(l, made(20, some()...)) || !rank.Same(made(0), made(0)) {
		t.Error("the same aren't")
	}
	for what, o := range map[string]*rank.Line{
		"none":          made(20),
		"another bound": made(19, some()...),
		"one less":      made(20, some()[:9]...),
		"one more":      made(20, append(some(), wait(11, 5, 0, 1))...),
		"a name":        made(20, append(some()[:9], wait(11, 5, 1, 2))...),
		"a node":        made(20, append(some()[:9], wait(10, 6, 1, 2))...),
		"a rank":        made(20, append(some()[:9], wait(10, 5, 2, 2))...),
		"another order": made(20, append([]api.Wait{some()[4]}, slices.Delete(some(), 4, 5)...)...),
	} {
		if rank.Same(l, o) || rank.Same(o, l) {
			t.Errorf("%s: the same", what)
		}
	}
	if rank.Same(made(0), made(1)) {
		t.Error("bounds 0 and 1")
	}
}

// What came to several queues is the same, in whichever order the queues were begun.
func TestSameWhateverCameFirst(t *testing.T) {
	l := some()
	slices.SortStableFunc(l, func(a, b api.Wait) int {
		if a.Node != b.Node {
			return int(int64(b.Node) - int64(a.Node))
		}
		return a.Rank - b.Rank
	})
	if slices.Equal(l, some()) || !rank.Same(made(20, l...), made(20, some()...)) {
		t.Error("not the same")
	}
}

// The sentence names no sizes: the same names in the same queues are the same.
func TestSameNamesNoSizes(t *testing.T) {
	if !rank.Same(made(3, wait(1, 5, 0, 10)), made(3, wait(1, 5, 0, 11))) {
		t.Error("sizes are looked at")
	}
}

// P14.3

// Of two names of one queue the one that came first is first.
func TestFirstComeFirst(t *testing.T) {
	r := rand.New(rand.NewSource(14))
	for range 50 {
		l := made(4096)
		came := map[api.Name]int{}
		for i := range 60 {
			x := wait(4*i, uint32(1+r.Intn(3)), r.Intn(3), 1+r.Intn(9))
			must(l.Put(x))
			came[x.Name] = i
		}
		for node := uint32(1); node <= 3; node++ {
			last := api.Wait{Rank: 2}
			number := -1
			for {
				x, e := l.First(node)
				if e != api.OK {
					break
				}
				if x.Rank > last.Rank || x.Rank == last.Rank && came[x.Name] < number {
					t.Fatalf("%v behind %v", x, last)
				}
				last, number = x, came[x.Name]
				y, e := l.Drop(x.Name)
				if y != x || e != api.OK {
					t.Fatalf("Drop: %v %v, want %v", y, e, x)
				}
			}
		}
		if names, _ := l.Len(); names != 0 {
			t.Fatalf("%d are left", names)
		}
	}
}

// Put and Drop leave the line as it was, also of a queue, a neighbour that there was not.
func TestPutAndDrop(t *testing.T) {
	l, m := made(20, some()...), modelled(20, some()...)
	was := l.Copy()
	for node := range uint32(8) {
		for r := range 3 {
			must(l.Put(wait(50, node+1, r, 7)))
			if rank.Same(l, was) {
				t.Error("put, and the same")
			}
			x, e := l.Drop(named(50))
			if x != wait(50, node+1, r, 7) || e != api.OK {
				t.Errorf("%v %v", x, e)
			}
			if !rank.Same(l, was) || !rank.Same(was, l) {
				t.Errorf("%d %d: not as it was", node+1, r)
			}
			m.as(t, "put and dropped", l)
		}
	}
	// So does a move there and back, of the last one of a queue.
	must(l.Move(named(8), 9))
	must(l.Move(named(8), 5))
	if !rank.Same(l, was) {
		t.Error("moved: not as it was")
	}
}

// The rules of all layers

// A line that is not there, and one that New didn't make.
func TestNoLine(t *testing.T) {
	for _, l := range []*rank.Line{nil, {}, new(rank.Line)} {
		for range 2 {
			none(t, l)
		}
	}
	zero := rank.Line{}
	for _, a := range []*rank.Line{nil, {}, &zero} {
		for _, b := range []*rank.Line{nil, {}, &zero} {
			if !rank.Same(a, b) {
				t.Error("none isn't like none")
			}
		}
		for _, b := range []*rank.Line{made(0), made(3), made(20, some()...)} {
			if rank.Same(a, b) || rank.Same(b, a) {
				t.Error("none is like one")
			}
		}
	}
}

func none(t *testing.T, l *rank.Line) {
	t.Helper()
	for _, x := range append(wrongs(), some()...) {
		if e := l.Put(x); e != api.ErrNil {
			t.Errorf("Put: %v", e)
		}
		if y, e := l.Drop(x.Name); y != (api.Wait{}) || e != api.ErrNil {
			t.Errorf("Drop: %v %v", y, e)
		}
		if y, ahead, e := l.Get(x.Name); y != (api.Wait{}) || ahead != 0 || e != api.ErrNil {
			t.Errorf("Get: %v %d %v", y, ahead, e)
		}
		if y, e := l.First(x.Node); y != (api.Wait{}) || e != api.ErrNil {
			t.Errorf("First: %v %v", y, e)
		}
		if e := l.Move(x.Name, x.Node); e != api.ErrNil {
			t.Errorf("Move: %v", e)
		}
		if got := all(l, x.Node); len(got) != 0 {
			t.Errorf("All: %v", got)
		}
	}
	if got := loads(l); len(got) != 0 {
		t.Errorf("Nodes: %v", got)
	}
	if names, most := l.Len(); names != 0 || most != 0 {
		t.Errorf("Len: %d %d", names, most)
	}
	if c := l.Copy(); c != nil {
		t.Errorf("Copy: %v", c)
	}
}

// A line of the bound 0 is there.
func TestBoundOfNone(t *testing.T) {
	l := made(0)
	if x, e := l.First(5); x != (api.Wait{}) || e != api.ErrNone {
		t.Errorf("First: %v %v", x, e)
	}
	if x, e := l.Drop(named(1)); x != (api.Wait{}) || e != api.ErrNone {
		t.Errorf("Drop: %v %v", x, e)
	}
	if e := l.Move(named(1), 5); e != api.ErrNone {
		t.Errorf("Move: %v", e)
	}
	if e := l.Put(wait(1, 5, 0, 1)); e != api.ErrWait {
		t.Errorf("Put: %v", e)
	}
	modelled(0).as(t, "bound 0", l)
}

// anyWait is something that may wait, or may not.
func anyWait(r *rand.Rand) api.Wait {
	if r.Intn(12) == 0 {
		l := wrongs()
		return l[r.Intn(len(l))]
	}
	return wait(r.Intn(24), []uint32{1, 2, 5, 6, most32}[r.Intn(5)], r.Intn(3), 1+r.Intn(65536))
}

// Whatever is called in whichever order: a line answers as its model does.
func TestAnyCalls(t *testing.T) {
	r := rand.New(rand.NewSource(1))
	for round := range 150 {
		most := []int{0, 1, 3, 8, 20, 24, 4096}[r.Intn(7)]
		l, m := made(most), modelled(most)
		for step := range 120 {
			x := anyWait(r)
			what := fmt.Sprintf("round %d step %d: %v", round, step, x)
			node := x.Node * uint32(min(1, r.Intn(20)))
			switch r.Intn(6) {
			case 0, 1, 2:
				if e, f := l.Put(x), m.put(x); e != f {
					t.Fatalf("%s: Put %v, want %v", what, e, f)
				}
			case 3:
				y, e := l.Drop(x.Name)
				if z, f := m.drop(x.Name); y != z || e != f {
					t.Fatalf("%s: Drop %v %v, want %v %v", what, y, e, z, f)
				}
			case 4:
				if e, f := l.Move(x.Name, node), m.move(x.Name, node); e != f {
					t.Fatalf("%s: Move %v, want %v", what, e, f)
				}
			case 5:
				m.asked(t, what, l, x.Name)
				if r.Intn(4) == 0 {
					l = l.Copy()
				}
			}
			if step%5 == 0 {
				m.as(t, what, l)
			}
		}
		m.as(t, fmt.Sprint("round ", round), l)
	}
}

// The chapter's examples.
func TestExamples(t *testing.T) {
	a, b, c, d := named(1), named(2), named(3), named(4)
	l := made(3)
	if e := l.Put(api.Wait{Name: a, Node: 5, Rank: 0, Size: 10}); e != api.OK {
		t.Errorf("Put a: %v", e)
	}
	if e := l.Put(api.Wait{Name: b, Node: 5, Rank: 2, Size: 20}); e != api.OK {
		t.Errorf("Put b: %v", e)
	}
	if e := l.Put(api.Wait{Name: c, Node: 6, Rank: 0, Size: 30}); e != api.OK {
		t.Errorf("Put c: %v", e)
	}
	if x, e := l.First(5); x != (api.Wait{Name: b, Node: 5, Rank: 2, Size: 20}) || e != api.OK {
		t.Errorf("First: %v %v", x, e)
	}
	if x, ahead, e := l.Get(a); x != (api.Wait{Name: a, Node: 5, Size: 10}) || ahead != 1 || e != api.OK {
		t.Errorf("Get: %v %d %v", x, ahead, e)
	}
	if e := l.Put(api.Wait{Name: d, Node: 5, Rank: 0, Size: 10}); e != api.ErrWait {
		t.Errorf("Put d: %v", e)
	}
	if e := l.Put(api.Wait{Name: a, Node: 5, Rank: 0, Size: 10}); e != api.ErrTwice {
		t.Errorf("Put a again: %v", e)
	}
	if got := loads(l); !slices.Equal(got, []load{{5, 30}, {6, 30}}) {
		t.Errorf("Nodes: %v", got)
	}
	if e := l.Move(a, 6); e != api.OK {
		t.Errorf("Move: %v", e)
	}
	if got := all(l, 6); !slices.Equal(got, []api.Wait{{Name: c, Node: 6, Size: 30}, {Name: a, Node: 6, Size: 10}}) {
		t.Errorf("All: %v", got)
	}
	if x, e := l.Drop(d); x != (api.Wait{}) || e != api.ErrNone {
		t.Errorf("Drop: %v %v", x, e)
	}
}
