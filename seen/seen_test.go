package seen_test

import (
	"fmt"
	"iter"
	"math"
	"math/rand"
	"slices"
	"testing"

	"packsaddle/api"
	"packsaddle/seen"
)

// most32 and most64 are the greatest numbers.
const (
	most32 = math.MaxUint32
	most64 = math.MaxUint64
)

// last is the last time until which a sight may count.
const last = 1<<62 - 2

// named is a name of that number; the greater ones differ in other parts than the lesser ones.
func named(n int) api.Name {
	x := api.Name{Source: api.Endpoint{Node: 1}}
	switch n % 4 {
	case 0:
		x.Seq = uint32(n)
	case 1:
		x.Time = uint64(n)
	case 2:
		x.Source.Node = uint32(n)
	case 3:
		x.Source.Service = uint32(n)
	}
	return x
}

// sight is of a name of that number; of three of them one goes back, and some have hops.
func sight(n int) api.Sight {
	return api.Sight{Name: named(n / 3), Back: n%3 == 1, Count: uint8(n % 3 / 2 * n)}
}

// timed is a sight, and until when it counts.
type timed struct {
	api.Sight
	until uint64
}

// must gives up at what was refused.
func must(e api.Errno) {
	if e != api.OK {
		panic(e)
	}
}

// made is a new table in which these were seen.
func made(most int, l ...timed) *seen.Table {
	x, e := seen.New(most)
	if x == nil || e != api.OK {
		panic(e)
	}
	for _, s := range l {
		must(x.See(s.Sight, s.until))
	}
	return x
}

// pruned is how many are pruned at a time.
func pruned(x *seen.Table, at uint64) int {
	n, e := x.Prune(at)
	must(e)
	return n
}

// wrongNames are names that may not be.
func wrongNames() []api.Name {
	return []api.Name{
		{},
		{Time: 1, Seq: 1},
		{Source: api.Endpoint{Service: 1}},
		{Source: api.Endpoint{Service: most32}, Time: 5, Seq: 6},
		{Source: api.Endpoint{Node: 1}, Time: api.Forever + 1},
		{Source: api.Endpoint{Node: most32}, Time: most64},
		{Source: api.Endpoint{Node: 7, Service: 7}, Time: 1 << 63, Seq: 7},
	}
}

// wrongTimes are times until which nothing may count.
func wrongTimes() []uint64 {
	return []uint64{api.Forever, api.Forever + 1, api.Forever + 2, 1 << 63, 1<<63 + 5, most64 - 1, most64}
}

// wrongs are what may not be seen, one thing being wrong in each.
func wrongs() []timed {
	var l []timed
	for i, n := range wrongNames() {
		l = append(l, timed{api.Sight{Name: n, Back: i%2 == 1, Count: uint8(i)}, 10})
	}
	for i, until := range wrongTimes() {
		l = append(l, timed{sight(3 + i), until})
	}
	return l
}

// some are a few that were seen, some of which are pruned together.
func some() []timed {
	return []timed{
		{sight(12), 30}, {sight(13), 20}, {sight(14), 20}, {sight(3), 7}, {sight(8), last},
		{sight(1), 0}, {sight(0), 30}, {sight(2), 1}, {sight(23), 30}, {sight(20), 1 << 40},
	}
}

// model is a table by another road: all that was seen, as it was.
type model struct {
	l    []timed
	most int
}

func (m *model) at(s api.Sight) int {
	return slices.IndexFunc(m.l, func(x timed) bool { return x.Sight == s })
}

func (m *model) see(s api.Sight, until uint64) api.Errno {
	switch {
	case s.Name.Source.Node == 0 || s.Name.Time >= 1<<62 || until >= 1<<62-1:
		return api.ErrArg
	case m.at(s) >= 0:
		return api.ErrTwice
	case len(m.l) >= m.most:
		return api.ErrSeen
	}
	m.l = append(m.l, timed{s, until})
	return api.OK
}

func (m *model) has(s api.Sight) (uint64, bool) {
	if at := m.at(s); at >= 0 {
		return m.l[at].until, true
	}
	return 0, false
}

func (m *model) prune(at uint64) int {
	var l []timed
	for _, x := range m.l {
		if x.until > at {
			l = append(l, x)
		}
	}
	n := len(m.l) - len(l)
	m.l = l
	return n
}

// text is a sight's, such that the texts are in the order of the sights.
func text(s api.Sight) string {
	return fmt.Sprintf("%010d %010d %020d %010d %t %03d", s.Name.Source.Node, s.Name.Source.Service, s.Name.Time, s.Name.Seq, s.Back, s.Count)
}

func (m *model) all() []timed {
	texts := map[string]timed{}
	var order []string
	for _, x := range m.l {
		// By its first letter, false is ahead of true.
		order = append(order, text(x.Sight))
		texts[text(x.Sight)] = x
	}
	slices.Sort(order)
	var l []timed
	for _, s := range order {
		l = append(l, texts[s])
	}
	return l
}

func (m *model) next() (uint64, bool) {
	var l []uint64
	for _, x := range m.l {
		l = append(l, x.until)
	}
	if len(l) == 0 {
		return 0, false
	}
	return slices.Min(l), true
}

// modelled is a table's of that bound, in which these were seen.
func modelled(most int, l ...timed) *model {
	m := &model{most: most}
	for _, x := range l {
		must(m.see(x.Sight, x.until))
	}
	return m
}

// listed is what is gone over.
func listed(seq iter.Seq2[api.Sight, uint64]) (l []timed) {
	for s, until := range seq {
		l = append(l, timed{s, until})
	}
	return l
}

// as tells a fault if a table isn't as its model.
func (m *model) as(t *testing.T, what string, x *seen.Table) {
	t.Helper()
	if sights, most := x.Len(); sights != len(m.l) || most != m.most {
		t.Fatalf("%s: Len %d %d, want %d %d", what, sights, most, len(m.l), m.most)
	}
	if got := listed(x.All()); !slices.Equal(got, m.all()) {
		t.Fatalf("%s: All %v, want %v", what, got, m.all())
	}
	until, is := x.Next()
	if want, some := m.next(); until != want || is != some {
		t.Fatalf("%s: Next %d %v, want %d %v", what, until, is, want, some)
	}
	for n := range 27 {
		m.asked(t, what, x, sight(n))
	}
	for _, s := range m.l {
		m.asked(t, what, x, s.Sight)
	}
}

// asked tells a fault if a sight doesn't count as in the model.
func (m *model) asked(t *testing.T, what string, x *seen.Table, s api.Sight) {
	t.Helper()
	until, is := x.Has(s)
	if want, some := m.has(s); until != want || is != some {
		t.Fatalf("%s: Has(%v) %d %v, want %d %v", what, s, until, is, want, some)
	}
}

// P15.1

func TestNew(t *testing.T) {
	for _, n := range []int{0, 1, 2, 3, 64, 100, 4095, 4096} {
		x, e := seen.New(n)
		if x == nil || e != api.OK {
			t.Fatalf("New(%d): %v %v", n, x, e)
		}
		modelled(n).as(t, fmt.Sprint("New ", n), x)
	}
	for _, n := range []int{-1, -2, -4096, 4097, 4098, 8192, 1 << 16, 1 << 32, 1<<32 + 1, math.MaxInt32, math.MinInt32, math.MaxInt, math.MinInt} {
		if x, e := seen.New(n); x != nil || e != api.ErrArg {
			t.Errorf("New(%d): %v %v", n, x, e)
		}
	}
}

func TestSee(t *testing.T) {
	x, m := made(20), modelled(20)
	for i, s := range some() {
		m.asked(t, "not yet", x, s.Sight)
		if e := x.See(s.Sight, s.until); e != api.OK {
			t.Fatalf("See(%v): %v", s, e)
		}
		must(m.see(s.Sight, s.until))
		m.as(t, fmt.Sprint("seen ", i), x)
	}
}

// The least and the greatest parts that there may be.
func TestSeeAtTheBounds(t *testing.T) {
	x, m := made(100), modelled(100)
	for i, n := range []api.Name{
		{Source: api.Endpoint{Node: 1}},
		{Source: api.Endpoint{Node: most32}},
		{Source: api.Endpoint{Node: 1, Service: most32}},
		{Source: api.Endpoint{Node: 1}, Time: api.Forever},
		{Source: api.Endpoint{Node: 1}, Seq: most32},
		{Source: api.Endpoint{Node: most32, Service: most32}, Time: api.Forever, Seq: most32},
	} {
		for _, s := range []api.Sight{{Name: n}, {Name: n, Count: 255}, {Name: n, Back: true}, {Name: n, Back: true, Count: 255}} {
			until := []uint64{0, last, 1, last - 1}[i%4]
			if e := x.See(s, until); e != api.OK {
				t.Fatalf("See(%v, %d): %v", s, until, e)
			}
			must(m.see(s, until))
		}
	}
	m.as(t, "bounds", x)
}

func TestSeeWrong(t *testing.T) {
	x, m := made(20, some()...), modelled(20, some()...)
	for _, s := range wrongs() {
		if e := x.See(s.Sight, s.until); e != api.ErrArg {
			t.Errorf("See(%v): %v", s, e)
		}
		m.as(t, fmt.Sprint("wrong ", s), x)
	}
}

// What was seen is not seen again, until whichever time; its own stays.
func TestSeeTwice(t *testing.T) {
	x, m := made(20, some()...), modelled(20, some()...)
	for _, s := range some() {
		for _, until := range []uint64{s.until, 0, 1, s.until + 1, last, 25} {
			if until > last {
				until = last
			}
			if e := x.See(s.Sight, until); e != api.ErrTwice {
				t.Errorf("See(%v, %d): %v", s, until, e)
			}
		}
		m.as(t, "twice", x)
	}
}

// Sights that are unlike in one part alone are others.
func TestUnlikeSights(t *testing.T) {
	base := api.Sight{Name: api.Name{Source: api.Endpoint{Node: 3, Service: 4}, Time: 5, Seq: 6}, Count: 7}
	var l []api.Sight
	for i := range 8 {
		s := base
		switch i {
		case 0:
			s.Name.Source.Node++
		case 1:
			s.Name.Source.Service++
		case 2:
			s.Name.Time++
		case 3:
			s.Name.Seq++
		case 4:
			s.Back = true
		case 5:
			s.Count++
		case 6:
			s.Back, s.Count = true, 8
		}
		l = append(l, s)
	}
	x, m := made(9), modelled(9)
	for i, s := range l {
		m.asked(t, "not yet", x, s)
		if e := x.See(s, uint64(i)); e != api.OK {
			t.Errorf("See(%v): %v", s, e)
		}
		must(m.see(s, uint64(i)))
		m.as(t, fmt.Sprint("unlike ", i), x)
	}
}

func TestSeeMoreThanMayBe(t *testing.T) {
	for most := range len(some()) {
		x, m := made(most, some()[:most]...), modelled(most, some()[:most]...)
		for _, s := range some()[most:] {
			if e := x.See(s.Sight, s.until); e != api.ErrSeen {
				t.Errorf("bound %d: See(%v): %v", most, s, e)
			}
		}
		m.as(t, fmt.Sprint("bound ", most), x)
		if most == 0 {
			continue
		}
		// There is room for as many as are pruned.
		room := pruned(x, 20)
		if n := m.prune(20); room != n {
			t.Errorf("bound %d: %d were pruned, want %d", most, room, n)
		}
		for i := range room {
			if e := x.See(sight(60+i), 5); e != api.OK {
				t.Errorf("bound %d: pruned: %v", most, e)
			}
		}
		if e := x.See(sight(90), 5); e != api.ErrSeen {
			t.Errorf("bound %d: full again: %v", most, e)
		}
	}
}

// As many as there may be at all: 4096.
func TestMaxSeen(t *testing.T) {
	x, m := made(4096), modelled(4096)
	for i := range 4096 {
		s := timed{api.Sight{Name: named(4 * (4095 - i/4)), Back: i%2 == 0, Count: uint8(i % 4 / 2)}, uint64(i * 7 % 4096)}
		if e := x.See(s.Sight, s.until); e != api.OK {
			t.Fatalf("See %d: %v", i, e)
		}
		m.l = append(m.l, s)
	}
	m.as(t, "full", x)
	if e := x.See(sight(3), 5); e != api.ErrSeen {
		t.Errorf("one more: %v", e)
	}
	if e := x.See(m.l[77].Sight, 5); e != api.ErrTwice {
		t.Errorf("again: %v", e)
	}
	if n := pruned(x, 2047); n != 2048 || m.prune(2047) != n {
		t.Errorf("%d were pruned", n)
	}
	m.as(t, "half", x)
	if n := pruned(x, 4095); n != 2048 {
		t.Errorf("%d were pruned", n)
	}
	modelled(4096).as(t, "none left", x)
}

func TestHas(t *testing.T) {
	x, m := made(20, some()...), modelled(20, some()...)
	for _, s := range some() {
		if until, is := x.Has(s.Sight); until != s.until || !is {
			t.Errorf("Has(%v): %d %v", s, until, is)
		}
	}
	for _, s := range append(wrongs(), timed{Sight: sight(99)}, timed{Sight: sight(4)}, timed{Sight: sight(21)}) {
		if until, is := x.Has(s.Sight); s.Sight != sight(3) && s.Sight != sight(8) && (until != 0 || is) {
			t.Errorf("Has(%v): %d %v", s, until, is)
		}
	}
	// Asking changes nothing.
	m.as(t, "had", x)
}

// Pruned are those until that time or an earlier one, and no others.
func TestPrune(t *testing.T) {
	for at, want := range map[uint64]int{0: 1, 1: 2, 2: 2, 6: 2, 7: 3, 8: 3, 19: 3, 20: 5, 21: 5, 29: 5, 30: 8, 31: 8, 1<<40 - 1: 8, 1 << 40: 9, 1<<40 + 1: 9, last - 1: 9, last: 10, api.Forever: 10} {
		x, m := made(20, some()...), modelled(20, some()...)
		if n, e := x.Prune(at); n != want || e != api.OK {
			t.Errorf("Prune(%d): %d %v, want %d", at, n, e, want)
		}
		m.prune(at)
		m.as(t, fmt.Sprint("pruned at ", at), x)
		if n, e := x.Prune(at); n != 0 || e != api.OK {
			t.Errorf("Prune(%d) again: %d %v", at, n, e)
		}
	}
}

// Time may go back: what is pruned stays so.
func TestPruneInTurn(t *testing.T) {
	x, m := made(20, some()...), modelled(20, some()...)
	for _, at := range []uint64{0, 0, 7, 3, 20, 0, 29, 30, 5, last} {
		n, e := x.Prune(at)
		if want := m.prune(at); n != want || e != api.OK {
			t.Errorf("Prune(%d): %d %v, want %d", at, n, e, want)
		}
		m.as(t, fmt.Sprint("in turn ", at), x)
	}
}

// The sentence of Prune names no ErrArg: behind a number that is no time all are.
func TestPruneAtNoTime(t *testing.T) {
	for _, at := range wrongTimes() {
		x := made(20, some()...)
		if n, e := x.Prune(at); n != 10 || e != api.OK {
			t.Errorf("Prune(%d): %d %v", at, n, e)
		}
		modelled(20).as(t, "no time", x)
		if n, e := x.Prune(at); n != 0 || e != api.OK {
			t.Errorf("Prune(%d) of none: %d %v", at, n, e)
		}
	}
}

// The errors come in the order in which the chapter names them.
func TestOrderOfErrors(t *testing.T) {
	full := made(1, timed{sight(5), 10})
	for _, s := range wrongs() {
		if e := full.See(s.Sight, s.until); e != api.ErrArg {
			t.Errorf("full: See(%v): %v", s, e)
		}
		if e := made(0).See(s.Sight, s.until); e != api.ErrArg {
			t.Errorf("bound 0: See(%v): %v", s, e)
		}
	}
	for _, until := range wrongTimes() {
		if e := full.See(sight(5), until); e != api.ErrArg {
			t.Errorf("twice: See(%d): %v", until, e)
		}
	}
	if e := full.See(sight(5), 10); e != api.ErrTwice {
		t.Errorf("full and twice: %v", e)
	}
	if e := full.See(sight(6), 10); e != api.ErrSeen {
		t.Errorf("full: %v", e)
	}
	if e := made(0).See(sight(6), 10); e != api.ErrSeen {
		t.Errorf("bound 0: %v", e)
	}
	modelled(1, timed{sight(5), 10}).as(t, "refused", full)
}

// P15.2

func TestAll(t *testing.T) {
	if got := listed(made(20).All()); len(got) != 0 {
		t.Errorf("of none: %v", got)
	}
	x, want := made(20, some()...), modelled(20, some()...).all()
	seq := x.All()
	for leave := range len(want) {
		var got []timed
		for s, until := range seq {
			got = append(got, timed{s, until})
			if len(got) > leave {
				break
			}
		}
		if !slices.Equal(got, want[:leave+1]) {
			t.Errorf("left behind %d: %v", leave, got)
		}
	}
	for i := range 3 {
		if got := listed(seq); !slices.Equal(got, want) {
			t.Errorf("time %d: %v", i, got)
		}
	}
}

// The order is that of names, of one name of those that don't go back and those that do, of these by Count.
func TestAllInOrder(t *testing.T) {
	l := []api.Sight{
		{Name: api.Name{Source: api.Endpoint{Node: 1, Service: 9}, Time: 9, Seq: 9}, Back: true, Count: 9},
		{Name: api.Name{Source: api.Endpoint{Node: 2}}},
		{Name: api.Name{Source: api.Endpoint{Node: 2, Service: 1}, Time: 9, Seq: 9}},
		{Name: api.Name{Source: api.Endpoint{Node: 2, Service: 2}, Time: 3, Seq: 9}, Back: true},
		{Name: api.Name{Source: api.Endpoint{Node: 2, Service: 2}, Time: 4, Seq: 5}, Count: 255},
		{Name: api.Name{Source: api.Endpoint{Node: 2, Service: 2}, Time: 4, Seq: 6}},
		{Name: api.Name{Source: api.Endpoint{Node: 2, Service: 2}, Time: 4, Seq: 6}, Count: 1},
		{Name: api.Name{Source: api.Endpoint{Node: 2, Service: 2}, Time: 4, Seq: 6}, Count: 2},
		{Name: api.Name{Source: api.Endpoint{Node: 2, Service: 2}, Time: 4, Seq: 6}, Count: 10},
		{Name: api.Name{Source: api.Endpoint{Node: 2, Service: 2}, Time: 4, Seq: 6}, Count: 255},
		{Name: api.Name{Source: api.Endpoint{Node: 2, Service: 2}, Time: 4, Seq: 6}, Back: true},
		{Name: api.Name{Source: api.Endpoint{Node: 2, Service: 2}, Time: 4, Seq: 6}, Back: true, Count: 1},
		{Name: api.Name{Source: api.Endpoint{Node: 2, Service: 2}, Time: 4, Seq: 6}, Back: true, Count: 128},
		{Name: api.Name{Source: api.Endpoint{Node: 2, Service: 2}, Time: 4, Seq: 7}},
		{Name: api.Name{Source: api.Endpoint{Node: 2, Service: 2}, Time: api.Forever}},
		{Name: api.Name{Source: api.Endpoint{Node: 10}}},
		{Name: api.Name{Source: api.Endpoint{Node: most32}}},
	}
	r := rand.New(rand.NewSource(15))
	for range 20 {
		x := made(20)
		for _, i := range r.Perm(len(l)) {
			// The times fall as the sights rise: they have no part in the order.
			must(x.See(l[i], uint64(1000-i)))
		}
		for i, got := range listed(x.All()) {
			if want := (timed{l[i], uint64(1000 - i)}); got != want {
				t.Fatalf("%d: %v, want %v", i, got, want)
			}
		}
	}
}

// What is gone over is as it was when it was asked for.
func TestAsAskedFor(t *testing.T) {
	x, m := made(20, some()...), modelled(20, some()...)
	seq, none := x.All(), made(20).All()
	pruned(x, 25)
	must(x.See(sight(13), 99))
	must(x.See(sight(60), 5))
	if got := listed(seq); !slices.Equal(got, m.all()) {
		t.Errorf("All %v, want %v", got, m.all())
	}
	pruned(x, last)
	if got := listed(seq); !slices.Equal(got, m.all()) {
		t.Errorf("All %v, want %v", got, m.all())
	}
	if got := listed(none); len(got) != 0 {
		t.Errorf("All %v", got)
	}
	empty := made(20)
	none = empty.All()
	must(empty.See(sight(1), 5))
	if got := listed(none); len(got) != 0 {
		t.Errorf("All %v", got)
	}
}

// There may be sights seen and pruned while it is gone over.
func TestChangedMeanwhile(t *testing.T) {
	x, m := made(40, some()...), modelled(40, some()...)
	want := m.all()
	var got []timed
	for s, until := range x.All() {
		got = append(got, timed{s, until})
		if n := pruned(x, until); n != m.prune(until) {
			t.Errorf("%d were pruned at %d", n, until)
		}
		must(x.See(sight(60+len(got)), last))
		must(m.see(sight(60+len(got)), last))
	}
	if !slices.Equal(got, want) {
		t.Errorf("%v, want %v", got, want)
	}
	m.as(t, "meanwhile", x)
}

func TestNext(t *testing.T) {
	x := made(20)
	check := func(want uint64, some bool) {
		t.Helper()
		if until, is := x.Next(); until != want || is != some {
			t.Errorf("%d %v, want %d %v", until, is, want, some)
		}
	}
	check(0, false)
	for i, until := range []uint64{last, last - 1, 50, 60, 50, 40, 7, 7, 1, 0, 3} {
		must(x.See(sight(i), until))
		check([]uint64{last, last - 1, 50, 50, 50, 40, 7, 7, 1, 0, 0}[i], true)
	}
	for _, next := range []uint64{0, 1, 3, 7, 40, 50, 60, last - 1, last} {
		check(next, true)
		pruned(x, next)
	}
	check(0, false)
}

func TestLen(t *testing.T) {
	x := made(3)
	check := func(want int) {
		t.Helper()
		if sights, most := x.Len(); sights != want || most != 3 {
			t.Errorf("%d %d, want %d", sights, most, want)
		}
	}
	check(0)
	must(x.See(sight(1), 10))
	check(1)
	must(x.See(sight(2), 5))
	check(2)
	pruned(x, 5)
	check(1)
	must(x.See(sight(2), 5))
	must(x.See(sight(3), 5))
	check(3)
	pruned(x, 10)
	check(0)
}

// A copy, and what it is a copy of, go on apart.
func TestCopy(t *testing.T) {
	for _, most := range []int{10, 20} {
		x, m := made(most, some()...), modelled(most, some()...)
		c, n := x.Copy(), modelled(most, some()...)
		if c == x || !seen.Same(c, x) {
			t.Fatal("not the same")
		}
		n.as(t, "copy", c)
		if pruned(c, 20) != n.prune(20) {
			t.Error("the copy is pruned otherwise")
		}
		m.as(t, "copied", x)
		n.as(t, "the copy", c)
		must(c.See(sight(60), 5))
		must(n.see(sight(60), 5))
		must(c.See(sight(13), 9))
		must(n.see(sight(13), 9))
		m.as(t, "copied", x)
		if pruned(x, last) != m.prune(last) {
			t.Error("pruned otherwise")
		}
		must(x.See(sight(61), 6))
		must(m.see(sight(61), 6))
		m.as(t, "copied", x)
		n.as(t, "the copy", c)
	}
	if c := made(0).Copy(); c == nil || !seen.Same(c, made(0)) {
		t.Error("of the bound 0")
	}
}

func TestSame(t *testing.T) {
	x := made(20, some()...)
	falling := some()
	slices.Reverse(falling)
	if !seen.Same(x, x) || !seen.Same(x, made(20, some()...)) || !seen.Same(x, made(20, falling...)) || !seen.Same(made(0), made(0)) {
		t.Error("the same aren't")
	}
	turned := timed{some()[9].Sight, some()[9].until}
	turned.Back = !turned.Back
	counted := timed{some()[9].Sight, some()[9].until}
	counted.Count++
	for what, o := range map[string]*seen.Table{
		"none":          made(20),
		"another bound": made(19, some()...),
		"one less":      made(20, some()[:9]...),
		"one more":      made(20, append(some(), timed{sight(60), 5})...),
		"a name":        made(20, append(some()[:9], timed{sight(60), 1 << 40})...),
		"a way":         made(20, append(some()[:9], turned)...),
		"a count":       made(20, append(some()[:9], counted)...),
		"a time":        made(20, append(some()[:9], timed{sight(20), 1<<40 + 1})...),
	} {
		if seen.Same(x, o) || seen.Same(o, x) {
			t.Errorf("%s: the same", what)
		}
	}
	if seen.Same(made(0), made(1)) {
		t.Error("bounds 0 and 1")
	}
	// A time of 0 is not as no sight.
	if a, b := made(3, timed{sight(1), 0}), made(3, timed{sight(2), 0}); seen.Same(a, b) || seen.Same(b, a) {
		t.Error("other sights, until 0")
	}
}

// P15.3

// However often it is seen, it is new once, until it is pruned, whatever else is seen.
func TestNewOnce(t *testing.T) {
	r := rand.New(rand.NewSource(3))
	for range 50 {
		x := made(4096)
		until := map[api.Sight]uint64{}
		now := uint64(0)
		for range 300 {
			s := sight(r.Intn(30))
			at := now + uint64(r.Intn(40))
			_, was := until[s]
			if e := x.See(s, at); (e == api.OK) == was || e != api.OK && e != api.ErrTwice {
				t.Fatalf("See(%v): %v, was %v", s, e, was)
			}
			if !was {
				until[s] = at
			}
			if r.Intn(10) > 0 {
				continue
			}
			now += uint64(r.Intn(15))
			pruned(x, now)
			for s, at := range until {
				if at <= now {
					delete(until, s)
				}
			}
		}
	}
}

// The order in which others are seen counts for nothing.
func TestWhateverCameFirst(t *testing.T) {
	r := rand.New(rand.NewSource(4))
	want := made(10, some()...)
	for range 50 {
		x := made(10)
		for _, i := range r.Perm(10) {
			s := some()[i]
			if e := x.See(s.Sight, s.until); e != api.OK {
				t.Fatalf("See(%v): %v", s, e)
			}
			if e := x.See(s.Sight, s.until+1); e != api.ErrTwice && s.until < last {
				t.Fatalf("See(%v) again: %v", s, e)
			}
		}
		if !seen.Same(x, want) || !slices.Equal(listed(x.All()), listed(want.All())) {
			t.Fatal("not the same")
		}
	}
}

// What was pruned is new again, until another time, too.
func TestNewAgain(t *testing.T) {
	x := made(3, timed{sight(4), 10})
	for i := range 5 {
		until := uint64(10 + i)
		if e := x.See(sight(4), 99); e != api.ErrTwice {
			t.Errorf("%d: %v", i, e)
		}
		if n := pruned(x, until-1); n != 0 {
			t.Errorf("%d: %d were pruned too early", i, n)
		}
		if n := pruned(x, until); n != 1 {
			t.Errorf("%d: %d were pruned", i, n)
		}
		if at, is := x.Has(sight(4)); at != 0 || is {
			t.Errorf("%d: %d %v", i, at, is)
		}
		if e := x.See(sight(4), until+1); e != api.OK {
			t.Errorf("%d: %v", i, e)
		}
		if at, is := x.Has(sight(4)); at != until+1 || !is {
			t.Errorf("%d: %d %v", i, at, is)
		}
	}
}

// It counts for nothing that a time went by, until it is pruned: a time that is behind may be told, too.
func TestUntilThePast(t *testing.T) {
	x := made(3, timed{sight(4), 10})
	pruned(x, 1000)
	if e := x.See(sight(4), 10); e != api.OK {
		t.Errorf("See: %v", e)
	}
	if e := x.See(sight(4), 2000); e != api.ErrTwice {
		t.Errorf("See again: %v", e)
	}
	if at, is := x.Has(sight(4)); at != 10 || !is {
		t.Errorf("Has: %d %v", at, is)
	}
}

// The rules of all layers

// A table that is not there, and one that New didn't make.
func TestNoTable(t *testing.T) {
	for _, x := range []*seen.Table{nil, {}, new(seen.Table)} {
		for range 2 {
			none(t, x)
		}
	}
	zero := seen.Table{}
	for _, a := range []*seen.Table{nil, {}, &zero} {
		for _, b := range []*seen.Table{nil, {}, &zero} {
			if !seen.Same(a, b) {
				t.Error("none isn't like none")
			}
		}
		for _, b := range []*seen.Table{made(0), made(3), made(20, some()...)} {
			if seen.Same(a, b) || seen.Same(b, a) {
				t.Error("none is like one")
			}
		}
	}
}

func none(t *testing.T, x *seen.Table) {
	t.Helper()
	for _, s := range append(wrongs(), some()...) {
		if e := x.See(s.Sight, s.until); e != api.ErrNil {
			t.Errorf("See: %v", e)
		}
		if until, is := x.Has(s.Sight); until != 0 || is {
			t.Errorf("Has: %d %v", until, is)
		}
		if n, e := x.Prune(s.until); n != 0 || e != api.ErrNil {
			t.Errorf("Prune: %d %v", n, e)
		}
	}
	if got := listed(x.All()); len(got) != 0 {
		t.Errorf("All: %v", got)
	}
	if until, is := x.Next(); until != 0 || is {
		t.Errorf("Next: %d %v", until, is)
	}
	if sights, most := x.Len(); sights != 0 || most != 0 {
		t.Errorf("Len: %d %d", sights, most)
	}
	if c := x.Copy(); c != nil {
		t.Errorf("Copy: %v", c)
	}
}

// A table of the bound 0 is there.
func TestBoundOfNone(t *testing.T) {
	x := made(0)
	if n, e := x.Prune(5); n != 0 || e != api.OK {
		t.Errorf("Prune: %d %v", n, e)
	}
	if e := x.See(sight(1), 5); e != api.ErrSeen {
		t.Errorf("See: %v", e)
	}
	modelled(0).as(t, "bound 0", x)
}

// anySight is something that may be seen, or may not.
func anySight(r *rand.Rand) timed {
	if r.Intn(12) == 0 {
		l := wrongs()
		return l[r.Intn(len(l))]
	}
	return timed{sight(r.Intn(27)), uint64(r.Intn(30))}
}

// Whatever is called in whichever order: a table answers as its model does.
func TestAnyCalls(t *testing.T) {
	r := rand.New(rand.NewSource(1))
	for round := range 150 {
		most := []int{0, 1, 3, 8, 20, 27, 4096}[r.Intn(7)]
		x, m := made(most), modelled(most)
		for step := range 120 {
			s := anySight(r)
			what := fmt.Sprintf("round %d step %d: %v", round, step, s)
			switch r.Intn(6) {
			case 0, 1, 2, 3:
				if e, f := x.See(s.Sight, s.until), m.see(s.Sight, s.until); e != f {
					t.Fatalf("%s: See %v, want %v", what, e, f)
				}
			case 4:
				at := s.until / uint64(1+r.Intn(8))
				n, e := x.Prune(at)
				if want := m.prune(at); n != want || e != api.OK {
					t.Fatalf("%s: Prune %d %v, want %d", what, n, e, want)
				}
			case 5:
				m.asked(t, what, x, s.Sight)
				if r.Intn(4) == 0 {
					x = x.Copy()
				}
			}
			if step%5 == 0 {
				m.as(t, what, x)
			}
		}
		m.as(t, fmt.Sprint("round ", round), x)
	}
}

// The chapter's examples.
func TestExamples(t *testing.T) {
	a, b := api.Sight{Name: named(1)}, api.Sight{Name: named(2)}
	back := api.Sight{Name: named(1), Back: true}
	x := made(2)
	if e := x.See(a, 10); e != api.OK {
		t.Errorf("See a: %v", e)
	}
	if e := x.See(a, 20); e != api.ErrTwice {
		t.Errorf("See a again: %v", e)
	}
	if e := x.See(back, 5); e != api.OK {
		t.Errorf("See a going back: %v", e)
	}
	if e := x.See(b, 9); e != api.ErrSeen {
		t.Errorf("See b: %v", e)
	}
	if until, is := x.Has(a); until != 10 || !is {
		t.Errorf("Has: %d %v", until, is)
	}
	if until, is := x.Next(); until != 5 || !is {
		t.Errorf("Next: %d %v", until, is)
	}
	if n, e := x.Prune(5); n != 1 || e != api.OK {
		t.Errorf("Prune(5): %d %v", n, e)
	}
	if n, e := x.Prune(9); n != 0 || e != api.OK {
		t.Errorf("Prune(9): %d %v", n, e)
	}
	if e := x.See(b, 9); e != api.OK {
		t.Errorf("See b: %v", e)
	}
	if sights, most := x.Len(); sights != 2 || most != 2 {
		t.Errorf("Len: %d %d", sights, most)
	}
}
