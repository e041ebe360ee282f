package keep_test

import (
	"bytes"
	"fmt"
	"iter"
	"math"
	"math/rand"
	"reflect"
	"slices"
	"testing"

	"packsaddle/api"
	"packsaddle/bundle"
	"packsaddle/keep"
	"packsaddle/rank"
	"packsaddle/seen"
)

// most32 and most64 are the greatest numbers.
const (
	most32 = math.MaxUint32
	most64 = math.MaxUint64
)

// forever is never, and last the time ahead of it.
const (
	forever = 1<<62 - 1
	last    = forever - 1
)

// must gives up at what was refused.
func must(e api.Errno) {
	if e != api.OK {
		panic(e)
	}
}

// named is a name of that number; the greater ones differ in other parts than the lesser ones.
func named(n int) api.Name {
	x := api.Name{Source: api.Endpoint{Node: 1}}
	switch n % 4 {
	case 0:
		x.Seq = uint32(n)
	case 1:
		x.Time = uint64(n)
	case 2:
		x.Source.Node = uint32(n)
	case 3:
		x.Source.Service = uint32(n)
	}
	return x
}

// of is a bundle of that name, of a rank, with a life and a payload of so many bytes.
func of(n api.Name, rank int, life uint64, payload int) api.Bundle {
	return api.Bundle{
		Primary: api.Primary{Flags: uint32(128 * rank), To: api.Endpoint{Node: 2}, Source: n.Source, Time: n.Time, Seq: n.Seq, Life: life},
		Extra:   api.Extra{Limit: 9},
		Payload: bytes.Repeat([]byte{7}, payload),
	}
}

// letter is a bundle of that number: its rank, its life, its sums, its payload are those of its number, too.
func letter(n int) api.Bundle {
	b := of(named(n), n%3, uint64(n*13%40), n%11)
	b.Primary.Sum, b.Sum = api.SumKind(n%3), api.SumKind(n/3%3)
	if n%5 == 2 {
		b.Primary.Flags |= api.FlagAdmin | api.FlagWant
		b.Extra.Before, b.Extra.Path = api.Endpoint{Node: 6}, api.Path{L: []api.Cross{{Gate: 6, Up: true}}}
	}
	return b
}

// coded are a bundle's bytes.
func coded(b api.Bundle) []byte {
	s, e := bundle.Encode(b)
	must(e)
	return s
}

// sized is a bundle of that number, of just so many bytes.
func sized(n, size int) []byte {
	b := of(named(n), n%3, 50, max(0, size-60))
	for range 5 {
		s := coded(b)
		if len(s) == size {
			return s
		}
		b.Payload = make([]byte, max(0, len(b.Payload)+size-len(s)))
	}
	panic("no such size")
}

// The changes.
func add(b []byte) api.Change   { return api.Change{Kind: api.ChgAdd, Bytes: b} }
func put(n int) api.Change      { return add(coded(letter(n))) }
func drop(n int) api.Change     { return api.Change{Kind: api.ChgDrop, Name: named(n)} }
func limbo(n int) api.Change    { return api.Change{Kind: api.ChgLimbo, Name: named(n)} }
func prune(n uint64) api.Change { return api.Change{Kind: api.ChgPrune, Until: n} }
func count(n uint64) api.Change { return api.Change{Kind: api.ChgCount, Number: n} }

func wait(n int, node uint32) api.Change {
	return api.Change{Kind: api.ChgWait, Name: named(n), Node: node}
}

func see(n int, until uint64) api.Change {
	s := api.Sight{Name: named(n / 3), Back: n%3 == 1, Count: uint8(n % 3 / 2 * n)}
	return api.Change{Kind: api.ChgSee, Sight: s, Until: until}
}

// made is a new store in which these were done, one by one.
func made(quota int, l ...api.Change) *keep.Store {
	s, e := keep.New(quota)
	if s == nil || e != api.OK {
		panic(e)
	}
	for _, c := range l {
		must(s.Do(c))
	}
	return s
}

// counted is a new store with counts.
func counted(quota int, counts [8]uint64) *keep.Store {
	s, e := keep.With(quota, counts)
	if s == nil || e != api.OK {
		panic(e)
	}
	return s
}

// some are changes that can be done one behind the other, from nothing on.
func some() []api.Change {
	return []api.Change{
		put(1), put(2), put(3), put(4), put(5), put(6), put(7), put(8), wait(1, 5), wait(4, 5), wait(2, 5), wait(3, 6), wait(7, most32),
		see(1, 10), see(2, 0), see(9, last), count(0), count(7), count(7), wait(1, 5), limbo(3), drop(6), wait(8, 5), see(5, 20), prune(0), wait(5, 6), wait(5, 5),
	}
}

// wrongNames are names that may not be.
func wrongNames() []api.Name {
	return []api.Name{
		{},
		{Time: 1, Seq: 1},
		{Source: api.Endpoint{Service: 1}},
		{Source: api.Endpoint{Service: most32}, Time: 5, Seq: 6},
		{Source: api.Endpoint{Node: 1}, Time: forever + 1},
		{Source: api.Endpoint{Node: most32}, Time: most64},
	}
}

// wrongBytes are bytes that are no bundle's, or too many.
func wrongBytes() [][]byte {
	b := coded(letter(4))
	flipped := bytes.Clone(coded(letter(8)))
	flipped[len(flipped)-1] ^= 1
	return [][]byte{
		nil, {}, {0}, {0x80}, {0x18, 0x17}, []byte("hi"), b[:len(b)-1], b[1:], append(bytes.Clone(b), 0), append(bytes.Clone(b), b...),
		flipped, sized(4, 60001), sized(4, 60002), sized(4, 65536), make([]byte, 60001), make([]byte, 65537), make([]byte, 1<<20),
	}
}

// wrongs are changes that may not be, one thing being wrong in each.
func wrongs() []api.Change {
	var l []api.Change
	for _, kind := range []api.ChgKind{0, -1, -2, 8, 9, 10, 256, 257, 1 << 32, 1<<32 + 1, math.MaxInt, math.MinInt} {
		l = append(l, api.Change{Kind: kind}, api.Change{Kind: kind, Name: named(1)}, api.Change{Kind: kind, Bytes: coded(letter(40))}, api.Change{Kind: kind, Number: 1, Until: 5})
	}
	for _, b := range wrongBytes() {
		l = append(l, add(b))
	}
	for _, n := range wrongNames() {
		l = append(l, api.Change{Kind: api.ChgDrop, Name: n}, api.Change{Kind: api.ChgLimbo, Name: n}, api.Change{Kind: api.ChgWait, Name: n, Node: 5})
		l = append(l, api.Change{Kind: api.ChgSee, Sight: api.Sight{Name: n}, Until: 5}, api.Change{Kind: api.ChgSee, Sight: api.Sight{Name: n, Back: true, Count: 3}})
	}
	l = append(l, wait(1, 0), wait(99, 0), see(1, forever), see(99, forever))
	for _, n := range []uint64{forever + 1, forever + 2, 1 << 63, 1<<63 + 5, most64 - 1, most64} {
		l = append(l, see(1, n), see(99, n), prune(n))
	}
	for _, n := range []uint64{8, 9, 16, 256, 1 << 32, 1<<32 + 1, 1 << 63, most64} {
		l = append(l, count(n))
	}
	return append(l, strange()...)
}

// strange are changes that tell something that they do not name.
func strange() []api.Change {
	var l []api.Change
	for _, c := range []api.Change{put(40), drop(1), wait(1, 5), limbo(1), see(40, 5), prune(5), count(1)} {
		for i := range 8 {
			x := c
			switch i {
			case 0:
				x.Bytes = coded(letter(41))
			case 1:
				x.Bytes = []byte{0}
			case 2:
				x.Name = named(2)
			case 3:
				x.Node = 6
			case 4:
				x.Sight = see(41, 6).Sight
			case 5:
				x.Sight = api.Sight{Count: 1}
			case 6:
				x.Until = 7
			case 7:
				x.Number = 2
			}
			if !reflect.DeepEqual(x, only(x)) {
				l = append(l, x)
			}
		}
	}
	return l
}

// only is what of a change its Kind names.
func only(c api.Change) api.Change {
	switch c.Kind {
	case api.ChgAdd:
		return add(c.Bytes)
	case api.ChgDrop, api.ChgLimbo:
		return api.Change{Kind: c.Kind, Name: c.Name}
	case api.ChgWait:
		return api.Change{Kind: c.Kind, Name: c.Name, Node: c.Node}
	case api.ChgSee:
		return api.Change{Kind: c.Kind, Sight: c.Sight, Until: c.Until}
	case api.ChgPrune:
		return prune(c.Until)
	case api.ChgCount:
		return count(c.Number)
	}
	return api.Change{}
}

// rights are changes that may be, whether they can be done or not.
func rights() []api.Change {
	edge := api.Name{Source: api.Endpoint{Node: most32, Service: most32}, Time: forever, Seq: most32}
	l := []api.Change{
		put(1), put(2), put(3), put(4), put(5), put(8), add(sized(1, 59999)), add(sized(1, 60000)), add(coded(of(edge, 2, forever, 0))),
		{Kind: api.ChgDrop, Name: edge}, {Kind: api.ChgLimbo, Name: edge}, {Kind: api.ChgWait, Name: edge, Node: most32}, {Kind: api.ChgWait, Name: edge, Node: 1},
		{Kind: api.ChgSee, Sight: api.Sight{Name: edge, Back: true, Count: 255}, Until: last}, {Kind: api.ChgSee, Sight: api.Sight{Name: edge}},
		drop(1), drop(99), limbo(1), wait(1, 5), see(1, 10), prune(0), prune(5), prune(last), prune(forever),
	}
	for n := range uint64(8) {
		l = append(l, count(n))
	}
	return l
}

// had is a bundle of a model, with its name and its bytes.
type had struct {
	api.Bundle
	name  api.Name
	bytes []byte
}

// expires is the time at which it does.
func (h had) expires() uint64 { return min(h.Primary.Time+h.Primary.Life, forever) }

// rank is its.
func (h had) rank() int { return int(h.Primary.Flags >> 7) }

// timed is a sight, and until when it counts.
type timed struct {
	api.Sight
	until uint64
}

// placed is a name, and for whom it waits.
type placed struct {
	name api.Name
	node uint32
}

// model is a store by another road: lists of all that came, as it came.
type model struct {
	quota   int
	counts  [8]uint64
	bundles []had
	waits   []placed
	sights  []timed
}

// modelled is a store's in which these were done.
func modelled(quota int, l ...api.Change) *model {
	m := &model{quota: quota}
	must(m.do(l...))
	return m
}

func (m *model) copy() *model {
	c := *m
	c.bundles, c.waits, c.sights = slices.Clone(m.bundles), slices.Clone(m.waits), slices.Clone(m.sights)
	return &c
}

func (m *model) do(l ...api.Change) api.Errno {
	was := m.copy()
	for _, c := range l {
		if e := m.one(c); e != api.OK {
			*m = *was
			return e
		}
	}
	return api.OK
}

func mayBe(n api.Name) bool { return n.Source.Node >= 1 && n.Time <= forever }

func (m *model) one(c api.Change) api.Errno {
	want := only(c)
	if len(c.Bytes) == 0 {
		want.Bytes = c.Bytes
	}
	if !reflect.DeepEqual(c, want) {
		return api.ErrArg
	}
	switch c.Kind {
	case api.ChgAdd:
		return m.add(c.Bytes)
	case api.ChgDrop, api.ChgLimbo, api.ChgWait:
		return m.place(c)
	case api.ChgSee:
		switch {
		case !mayBe(c.Sight.Name) || c.Until >= forever:
			return api.ErrArg
		case slices.ContainsFunc(m.sights, func(x timed) bool { return x.Sight == c.Sight }):
			return api.ErrTwice
		case len(m.sights) == 4096:
			return api.ErrSeen
		}
		m.sights = append(m.sights, timed{c.Sight, c.Until})
	case api.ChgPrune:
		if c.Until > forever {
			return api.ErrArg
		}
		m.sights = slices.DeleteFunc(m.sights, func(x timed) bool { return x.until <= c.Until })
	case api.ChgCount:
		if c.Number > 7 {
			return api.ErrArg
		}
		m.counts[c.Number] = min(m.counts[c.Number]+1, forever)
	default:
		return api.ErrArg
	}
	return api.OK
}

func (m *model) at(n api.Name) int {
	return slices.IndexFunc(m.bundles, func(h had) bool { return h.name == n })
}

func (m *model) add(s []byte) api.Errno {
	b, e := bundle.Decode(s)
	n := api.Name{Source: b.Primary.Source, Time: b.Primary.Time, Seq: b.Primary.Seq}
	switch {
	case e != api.OK || len(s) > 60000:
		return api.ErrArg
	case m.at(n) >= 0:
		return api.ErrTwice
	case m.used()+len(s) > m.quota:
		return api.ErrQuota
	}
	m.bundles = append(m.bundles, had{b, n, bytes.Clone(s)})
	return api.OK
}

func (m *model) place(c api.Change) api.Errno {
	waits := func(x placed) bool { return x.name == c.Name }
	at := m.at(c.Name)
	switch {
	case !mayBe(c.Name) || c.Kind == api.ChgWait && c.Node == 0:
		return api.ErrArg
	case at < 0:
		return api.ErrNone
	case c.Kind == api.ChgWait && len(m.waits) == 4096 && !slices.ContainsFunc(m.waits, waits):
		return api.ErrWait
	}
	m.waits = slices.DeleteFunc(m.waits, waits)
	if c.Kind == api.ChgDrop {
		m.bundles = slices.Delete(m.bundles, at, at+1)
	}
	if c.Kind == api.ChgWait {
		m.waits = append(m.waits, placed{c.Name, c.Node})
	}
	return api.OK
}

func (m *model) used() int {
	n := 0
	for _, h := range m.bundles {
		n += len(h.bytes)
	}
	return n
}

// text is a name's, such that the texts are in the order of the names.
func text(n api.Name) string {
	return fmt.Sprintf("%010d %010d %020d %010d", n.Source.Node, n.Source.Service, n.Time, n.Seq)
}

func byText(a, b api.Name) int { return bytes.Compare([]byte(text(a)), []byte(text(b))) }

// where is for whom a bundle waits.
func (m *model) where(n api.Name) (uint32, bool) {
	for _, x := range m.waits {
		if x.name == n {
			return x.node, true
		}
	}
	return 0, false
}

func (m *model) names() []placed {
	var l []placed
	for _, h := range m.bundles {
		node, _ := m.where(h.name)
		l = append(l, placed{h.name, node})
	}
	slices.SortFunc(l, func(a, b placed) int { return byText(a.name, b.name) })
	return l
}

func (m *model) dead(at uint64) []api.Name {
	var l []api.Name
	for _, h := range m.bundles {
		if h.expires() <= at {
			l = append(l, h.name)
		}
	}
	slices.SortFunc(l, byText)
	return l
}

func (m *model) next() (uint64, bool) {
	if len(m.bundles) == 0 {
		return 0, false
	}
	return slices.MinFunc(m.bundles, func(a, b had) int {
		if a.expires() < b.expires() {
			return -1
		}
		return 1
	}).expires(), true
}

// line and table are those of the layers below, of what waits, and of what was seen.
func (m *model) line() *rank.Line {
	l, e := rank.New(4096)
	must(e)
	for _, x := range m.waits {
		h := m.bundles[m.at(x.name)]
		must(l.Put(api.Wait{Name: x.name, Node: x.node, Rank: h.rank(), Size: len(h.bytes)}))
	}
	return l
}

func (m *model) table() *seen.Table {
	t, e := seen.New(4096)
	must(e)
	for _, x := range m.sights {
		must(t.See(x.Sight, x.until))
	}
	return t
}

// pairs are all that is gone over, two by two.
func pairs[A, B any](seq iter.Seq2[A, B]) []any {
	var l []any
	for a, b := range seq {
		l = append(l, a, b)
	}
	return l
}

// told are all names that a store goes over.
func told(seq iter.Seq2[api.Name, uint32]) (l []placed) {
	for n, node := range seq {
		l = append(l, placed{n, node})
	}
	return l
}

// as tells a fault if a store isn't as its model.
func (m *model) as(t *testing.T, what string, s *keep.Store) {
	t.Helper()
	if used, quota := s.Used(); used != m.used() || quota != m.quota {
		t.Fatalf("%s: Used %d %d, want %d %d", what, used, quota, m.used(), m.quota)
	}
	for i, want := range m.counts {
		if n, e := s.Count(i); n != want || e != api.OK {
			t.Fatalf("%s: Count(%d) %d %v, want %d", what, i, n, e, want)
		}
	}
	if got := told(s.Names()); !slices.Equal(got, m.names()) {
		t.Fatalf("%s: Names %v, want %v", what, got, m.names())
	}
	at, is := s.Next()
	if want, some := m.next(); at != want || is != some {
		t.Fatalf("%s: Next %d %v, want %d %v", what, at, is, want, some)
	}
	for _, at := range []uint64{0, 1, 10, at, at - 1, at + 1, 25, 30, forever - 1, forever, forever + 1, most64} {
		if got := s.Dead(at); !slices.Equal(got, m.dead(at)) {
			t.Fatalf("%s: Dead(%d) %v, want %v", what, at, got, m.dead(at))
		}
	}
	for n := range 14 {
		m.asked(t, what, s, named(n))
	}
	m.queued(t, what, s.Line())
	if got, want := s.Seen(), m.table(); !seen.Same(got, want) || !slices.Equal(pairs(got.All()), pairs(want.All())) {
		t.Fatalf("%s: Seen %v, want %v", what, pairs(got.All()), pairs(want.All()))
	}
}

// queued tells a fault if a line isn't the model's, its sizes, too.
func (m *model) queued(t *testing.T, what string, got *rank.Line) {
	t.Helper()
	want := m.line()
	if !rank.Same(got, want) || !slices.Equal(pairs(got.Nodes()), pairs(want.Nodes())) {
		t.Fatalf("%s: Line %v, want %v", what, pairs(got.Nodes()), pairs(want.Nodes()))
	}
	for node := range want.Nodes() {
		if a, b := slices.Collect(got.All(node)), slices.Collect(want.All(node)); !slices.Equal(a, b) {
			t.Fatalf("%s: All(%d) %v, want %v", what, node, a, b)
		}
	}
}

// asked tells a fault if a name isn't there as in the model.
func (m *model) asked(t *testing.T, what string, s *keep.Store, n api.Name) {
	t.Helper()
	b, e := s.Get(n)
	node, is, f := s.Where(n)
	at := m.at(n)
	if at < 0 {
		if !reflect.DeepEqual(b, api.Bundle{}) || e != api.ErrNone || node != 0 || is || f != api.ErrNone {
			t.Fatalf("%s: of none: Get(%v) %v %v, Where %d %v %v", what, n, b, e, node, is, f)
		}
		return
	}
	if !bundle.Same(b, m.bundles[at].Bundle) || e != api.OK {
		t.Fatalf("%s: Get(%v) %v %v, want %v", what, n, b, e, m.bundles[at].Bundle)
	}
	if want, some := m.where(n); node != want || is != some || f != api.OK {
		t.Fatalf("%s: Where(%v) %d %v %v, want %d %v", what, n, node, is, f, want, some)
	}
}

// both do the same to a store and to its model, and tell a fault if it isn't that error that they answer, or they aren't alike then.
func both(t *testing.T, what string, s *keep.Store, m *model, want api.Errno, l ...api.Change) {
	t.Helper()
	if e := s.Do(l...); e != want {
		t.Errorf("%s: Do %v, want %v", what, e, want)
	}
	if e := m.do(l...); e != want {
		t.Errorf("%s: the model's Do %v, want %v", what, e, want)
	}
	m.as(t, what, s)
}

// P16.1

func TestNew(t *testing.T) {
	for _, n := range []int{0, 1, 2, 100, 1<<16 + 1, 1<<20 - 1, 1 << 20} {
		s, e := keep.New(n)
		if s == nil || e != api.OK {
			t.Fatalf("New(%d): %v %v", n, s, e)
		}
		modelled(n).as(t, fmt.Sprint("New ", n), s)
	}
	for _, n := range wrongQuotas() {
		if s, e := keep.New(n); s != nil || e != api.ErrArg {
			t.Errorf("New(%d): %v %v", n, s, e)
		}
	}
}

func wrongQuotas() []int {
	return []int{-1, -2, -100, 1<<20 + 1, 1<<20 + 2, 1 << 21, 1 << 32, 1<<32 + 1, math.MaxInt32, math.MinInt32, math.MaxInt, math.MinInt}
}

func TestWith(t *testing.T) {
	for _, counts := range [][8]uint64{{}, {1, 2, 3, 4, 5, 6, 7, 8}, {7: 1}, {forever, last, 0, forever, 1, 1 << 61, 0, forever}} {
		for _, quota := range []int{0, 7, 1 << 20} {
			s, e := keep.With(quota, counts)
			if s == nil || e != api.OK {
				t.Fatalf("With(%d, %v): %v %v", quota, counts, s, e)
			}
			m := modelled(quota)
			m.counts = counts
			m.as(t, fmt.Sprint("With ", quota, counts), s)
		}
	}
	for _, n := range wrongQuotas() {
		if s, e := keep.With(n, [8]uint64{1}); s != nil || e != api.ErrArg {
			t.Errorf("With(%d): %v %v", n, s, e)
		}
	}
	for i := range 8 {
		for _, n := range []uint64{forever + 1, forever + 2, 1 << 63, most64} {
			var counts [8]uint64
			counts[i] = n
			if s, e := keep.With(100, counts); s != nil || e != api.ErrArg {
				t.Errorf("With(%v): %v %v", counts, s, e)
			}
		}
	}
}

func TestCheck(t *testing.T) {
	for i, c := range rights() {
		if e := keep.Check(c); e != api.OK {
			t.Errorf("%d: Check of the Kind %d: %v", i, c.Kind, e)
		}
		if c.Kind != api.ChgAdd {
			// No bytes are nought, too.
			c.Bytes = []byte{}
			if e := keep.Check(c); e != api.OK {
				t.Errorf("%d: Check of the Kind %d: %v", i, c.Kind, e)
			}
		}
	}
}

func TestCheckWrong(t *testing.T) {
	for i, c := range wrongs() {
		if e := keep.Check(c); e != api.ErrArg {
			t.Errorf("%d: Check of the Kind %d: %v", i, c.Kind, e)
		}
	}
}

// With bits of it turned, a bundle that has sums is no bundle.
func TestCheckTurnedBits(t *testing.T) {
	b := letter(5)
	b.Primary.Sum, b.Sum = api.SumLong, api.SumShort
	s := coded(b)
	for i := range 8 * len(s) {
		x := bytes.Clone(s)
		x[i/8] ^= 1 << (i % 8)
		if e := keep.Check(add(x)); e != api.ErrArg {
			t.Fatalf("bit %d: %v", i, e)
		}
	}
}

// Each change, and what a store is then.
func TestDo(t *testing.T) {
	s, m := made(1000), modelled(1000)
	for i, c := range some() {
		both(t, fmt.Sprint("some ", i), s, m, api.OK, c)
	}
	// The same at once.
	s = made(1000)
	if e := s.Do(some()...); e != api.OK {
		t.Errorf("at once: %v", e)
	}
	m.as(t, "at once", s)
	if !keep.Same(s, made(1000, some()...)) {
		t.Error("at once, and one by one: not the same")
	}
}

// What can be done and what cannot, at each change of a few.
func TestDoOthers(t *testing.T) {
	all := slices.Concat(rights(), some(), []api.Change{put(60), wait(60, 1), limbo(60), drop(60), drop(2), limbo(2), wait(2, 7), wait(6, 7)})
	for i, c := range all {
		s, m := made(1000, some()...), modelled(1000, some()...)
		if e, f := s.Do(c), m.do(c); e != f {
			t.Errorf("%d: %v, want %v", i, e, f)
		}
		m.as(t, fmt.Sprint("another ", i), s)
	}
}

func TestDoWrong(t *testing.T) {
	s, m := made(1000, some()...), modelled(1000, some()...)
	for i, c := range wrongs() {
		if e := s.Do(c); e != api.ErrArg {
			t.Errorf("%d: Do of the Kind %d: %v", i, c.Kind, e)
		}
		if e := s.Do(count(3), c, count(2)); e != api.ErrArg {
			t.Errorf("%d: Do of the Kind %d: %v", i, c.Kind, e)
		}
	}
	m.as(t, "wrong", s)
}

// No changes are done, too.
func TestDoNothing(t *testing.T) {
	s, m := made(1000, some()...), modelled(1000, some()...)
	both(t, "none", s, m, api.OK)
	both(t, "none", s, m, api.OK, []api.Change{}...)
}

func TestAdd(t *testing.T) {
	s, m := made(1000), modelled(1000)
	both(t, "add", s, m, api.OK, put(1))
	if node, is, e := s.Where(named(1)); node != 0 || is || e != api.OK {
		t.Errorf("not in limbo: %d %v %v", node, is, e)
	}
	both(t, "again", s, m, api.ErrTwice, put(1))
	// Its name makes it what it is: others of it are copies.
	b := letter(1)
	b.Extra.Count++
	both(t, "a copy", s, m, api.ErrTwice, add(coded(b)))
	b.Payload = []byte("another one")
	both(t, "another payload", s, m, api.ErrTwice, add(coded(b)))
	both(t, "dropped", s, m, api.OK, drop(1))
	both(t, "the other one", s, m, api.OK, add(coded(b)))
}

// What is handed in isn't kept, nor changed, spare room behind it included.
func TestAddKeepsNothing(t *testing.T) {
	room := append(coded(letter(1)), 1, 2, 3)
	b := room[:len(room)-3]
	was := bytes.Clone(room)
	s, m := made(1000), modelled(1000, put(1))
	must(s.Do(add(b)))
	l := []api.Change{put(2), wait(2, 6), count(1)}
	must(s.Do(l...))
	must(m.do(l...))
	if !bytes.Equal(room, was) || !reflect.DeepEqual(l, []api.Change{put(2), wait(2, 6), count(1)}) {
		t.Error("changed")
	}
	for i := range room {
		room[i] ^= 0xff
	}
	for i := range l[0].Bytes {
		l[0].Bytes[i] = 0
	}
	clear(l)
	m.as(t, "spoilt", s)
}

func TestDrop(t *testing.T) {
	s, m := made(1000, some()...), modelled(1000, some()...)
	both(t, "in limbo", s, m, api.OK, drop(3))
	both(t, "one that waits", s, m, api.OK, drop(4))
	both(t, "again", s, m, api.ErrNone, drop(4))
	both(t, "none", s, m, api.ErrNone, drop(99))
	// It comes back in limbo.
	both(t, "back", s, m, api.OK, put(4))
	for n := range 9 {
		if at := m.at(named(n)); at >= 0 {
			both(t, fmt.Sprint("drop ", n), s, m, api.OK, drop(n))
		}
	}
	if used, _ := s.Used(); used != 0 {
		t.Errorf("%d are used", used)
	}
	if names, _ := s.Line().Len(); names != 0 {
		t.Errorf("%d wait", names)
	}
}

// It waits with its primary's rank, and its size.
func TestWait(t *testing.T) {
	s := made(1000, put(1), put(2), put(3), put(4))
	want := []api.Wait{}
	for _, n := range []int{1, 2, 3, 4} {
		must(s.Do(wait(n, 5)))
		want = append(want, api.Wait{Name: named(n), Node: 5, Rank: n % 3, Size: len(coded(letter(n)))})
	}
	// 2 has the greatest rank, 1 and 4 the same one, 3 the least.
	if got := slices.Collect(s.Line().All(5)); !slices.Equal(got, []api.Wait{want[1], want[0], want[3], want[2]}) {
		t.Errorf("%v, want %v", got, want)
	}
	for i, n := range []int{1, 2, 3, 4} {
		if x, _, e := s.Line().Get(named(n)); x != want[i] || e != api.OK {
			t.Errorf("%v %v, want %v", x, e, want[i])
		}
	}
	// As if it were moved: to the same neighbour, too.
	must(s.Do(wait(1, 5)))
	if got := slices.Collect(s.Line().All(5)); !slices.Equal(got, []api.Wait{want[1], want[3], want[0], want[2]}) {
		t.Errorf("moved: %v, want %v", got, want)
	}
	must(s.Do(wait(4, 6)))
	want[3].Node = 6
	if got := slices.Collect(s.Line().All(6)); !slices.Equal(got, want[3:]) {
		t.Errorf("moved to 6: %v, want %v", got, want)
	}
	if e := s.Do(wait(9, 5)); e != api.ErrNone {
		t.Errorf("of none: %v", e)
	}
}

// One that is not there any more does not wait, whatever waited by its name: with other bytes it waits with another rank and size.
func TestWaitAnew(t *testing.T) {
	s, m := made(1000, put(1), wait(1, 5)), modelled(1000, put(1), wait(1, 5))
	b := of(named(1), 2, 3, 30)
	both(t, "anew", s, m, api.OK, drop(1), add(coded(b)))
	both(t, "waits", s, m, api.OK, wait(1, 6))
	if x, _, e := s.Line().Get(named(1)); x != (api.Wait{Name: named(1), Node: 6, Rank: 2, Size: len(coded(b))}) || e != api.OK {
		t.Errorf("%v %v", x, e)
	}
}

// In limbo it may be told so once more: it is there, and does not wait.
func TestLimbo(t *testing.T) {
	s, m := made(1000, put(1), put(2), wait(1, 5), wait(2, 5)), modelled(1000, put(1), put(2), wait(1, 5), wait(2, 5))
	both(t, "limbo", s, m, api.OK, limbo(1))
	both(t, "again", s, m, api.OK, limbo(1))
	both(t, "both", s, m, api.OK, limbo(1), limbo(2))
	both(t, "waits again", s, m, api.OK, wait(1, 5))
	both(t, "of none", s, m, api.ErrNone, limbo(3))
	both(t, "dropped", s, m, api.ErrNone, drop(1), limbo(1))
}

func TestSee(t *testing.T) {
	s, m := made(1000), modelled(1000)
	both(t, "see", s, m, api.OK, see(3, 10))
	both(t, "back", s, m, api.OK, see(4, 10))
	both(t, "again", s, m, api.ErrTwice, see(3, 10))
	both(t, "until another time", s, m, api.ErrTwice, see(3, 20))
	both(t, "more", s, m, api.OK, see(9, 11), see(12, last), see(15, 0))
	both(t, "pruned", s, m, api.OK, prune(10))
	both(t, "new again", s, m, api.OK, see(3, 5))
	both(t, "pruned at Forever", s, m, api.OK, prune(forever))
	if sights, most := s.Seen().Len(); sights != 0 || most != 4096 {
		t.Errorf("Len %d %d", sights, most)
	}
}

// A count goes up to Forever, and no further.
func TestCountUpToForever(t *testing.T) {
	counts := [8]uint64{0, last, forever, last - 1, 5}
	s, m := counted(10, counts), modelled(10)
	m.counts = counts
	for i := range uint64(5) {
		both(t, fmt.Sprint("count ", i), s, m, api.OK, count(i))
	}
	both(t, "more", s, m, api.OK, count(1), count(1), count(2), count(3), count(3), count(4), count(7))
	if n, e := s.Count(3); n != forever || e != api.OK {
		t.Errorf("%d %v", n, e)
	}
}

// They are done in order: what one does is there for those behind it.
func TestDoInOrder(t *testing.T) {
	size := len(coded(letter(1)))
	s, m := made(2*size+10), modelled(2*size+10)
	both(t, "wait ahead of add", s, m, api.ErrNone, wait(1, 5), put(1))
	both(t, "add ahead of wait", s, m, api.OK, put(1), wait(1, 5))
	both(t, "see twice", s, m, api.ErrTwice, see(1, 5), see(1, 6))
	both(t, "see, prune, see", s, m, api.OK, see(1, 5), prune(5), see(1, 6))
	both(t, "add ahead of drop", s, m, api.ErrTwice, put(1), drop(1))
	both(t, "drop ahead of add", s, m, api.OK, drop(1), put(1))
	both(t, "no room", s, m, api.ErrQuota, add(sized(3, size+5)), add(sized(4, size+5)))
	both(t, "room that was made", s, m, api.OK, drop(1), add(sized(3, size+5)), add(sized(4, size+5)), limbo(3), wait(4, 6))
	both(t, "too late", s, m, api.ErrQuota, put(1), drop(3))
}

// The first one that can't be done refuses all, whichever others are behind it.
func TestFirstError(t *testing.T) {
	wrong := map[api.Errno]api.Change{
		api.ErrArg: count(8), api.ErrTwice: put(1), api.ErrNone: drop(99), api.ErrQuota: add(sized(60, 1001)),
	}
	all := []api.Errno{api.ErrArg, api.ErrTwice, api.ErrNone, api.ErrQuota}
	for _, a := range all {
		for _, b := range all {
			s, m := made(1000, some()...), modelled(1000, some()...)
			both(t, fmt.Sprint(a, b), s, m, a, wrong[a], wrong[b])
			both(t, fmt.Sprint(a, b), s, m, a, count(1), see(60, 9), wrong[a], drop(1), wrong[b], wait(4, 9))
		}
	}
}

// Of one change the errors come in the order in which the chapter names them.
func TestOrderOfErrors(t *testing.T) {
	s, m := made(60, put(1)), modelled(60, put(1))
	both(t, "wrong, ahead of all", s, m, api.ErrArg, api.Change{Kind: api.ChgAdd, Bytes: coded(letter(1)), Node: 1})
	both(t, "twice, ahead of the quota", s, m, api.ErrTwice, put(1))
	both(t, "twice, and more bytes", s, m, api.ErrTwice, add(sized(1, 60000)))
	both(t, "too many bytes, and twice", s, m, api.ErrArg, add(sized(1, 60001)))
	both(t, "the quota", s, m, api.ErrQuota, put(2))
	both(t, "wrong, ahead of none", s, m, api.ErrArg, wait(99, 0))
	both(t, "twice, and no such time", s, m, api.ErrArg, see(1, forever))
}

// Up to the quota, just.
func TestQuota(t *testing.T) {
	for _, quota := range []int{0, 59, 60, 61, 119, 120, 121, 179, 180, 181} {
		s, m := made(quota), modelled(quota)
		for i := range 4 {
			want := api.OK
			if m.used()+60 > quota {
				want = api.ErrQuota
			}
			both(t, fmt.Sprint("quota ", quota), s, m, want, add(sized(i, 60)))
		}
	}
	s, m := made(120, add(sized(1, 60))), modelled(120, add(sized(1, 60)))
	both(t, "one too many", s, m, api.ErrQuota, add(sized(2, 61)))
	both(t, "just as many", s, m, api.OK, add(sized(2, 60)))
}

// The greatest bundle, the greatest quota.
func TestMaxBytesAndMaxQuota(t *testing.T) {
	s, m := made(1<<20), modelled(1<<20)
	var l []api.Change
	for i := range 17 {
		l = append(l, add(sized(i, 60000)), wait(i, 5))
	}
	both(t, "17 times 60000", s, m, api.OK, l...)
	rest := 1<<20 - 17*60000
	both(t, "no room", s, m, api.ErrQuota, add(sized(20, rest+1)))
	both(t, "full", s, m, api.OK, add(sized(20, rest)))
	both(t, "no room for one", s, m, api.ErrQuota, put(21))
	for _, x := range []int{60001, 60002, 65536} {
		if e := made(1 << 20).Do(add(sized(1, x))); e != api.ErrArg {
			t.Errorf("%d bytes: %v", x, e)
		}
	}
}

// many are the changes that add so many bundles, of which all wait.
func many(n int) (l []api.Change) {
	for i := range n {
		l = append(l, add(coded(of(named(i), i%3, 5, 0))), wait(i, uint32(1+i%7)))
	}
	return l
}

// There may be more bundles than can wait.
func TestMaxWait(t *testing.T) {
	s := made(1 << 20)
	must(s.Do(many(4096)...))
	if names, most := s.Line().Len(); names != 4096 || most != 4096 {
		t.Errorf("%d %d wait", names, most)
	}
	if e := s.Do(put(5000)); e != api.OK {
		t.Errorf("add: %v", e)
	}
	was := s.Copy()
	if e := s.Do(wait(5000, 3)); e != api.ErrWait {
		t.Errorf("wait: %v", e)
	}
	if e := s.Do(wait(6000, 3)); e != api.ErrNone {
		t.Errorf("none: %v", e)
	}
	if e := s.Do(limbo(7), count(1), wait(5000, 3), wait(7, 3)); e != api.ErrWait {
		t.Errorf("both: %v", e)
	}
	if !keep.Same(s, was) {
		t.Error("refused, and another one")
	}
	// Those that wait are moved all the same.
	if e := s.Do(wait(8, 3)); e != api.OK {
		t.Errorf("move: %v", e)
	}
	if e := s.Do(limbo(7), wait(5000, 3)); e != api.OK {
		t.Errorf("instead: %v", e)
	}
	if e := s.Do(drop(8), wait(7, 3)); e != api.OK {
		t.Errorf("instead of one that was dropped: %v", e)
	}
	if e := s.Do(put(8), wait(8, 3)); e != api.ErrWait {
		t.Errorf("full again: %v", e)
	}
	if got := told(s.Names()); len(got) != 4096 || slices.ContainsFunc(got, func(x placed) bool { return x.node == 0 }) {
		t.Errorf("%d names", len(got))
	}
}

func TestMaxSeen(t *testing.T) {
	s := made(10)
	var l []api.Change
	for i := range 4096 {
		l = append(l, api.Change{Kind: api.ChgSee, Sight: api.Sight{Name: named(i), Back: i%2 == 0}, Until: uint64(i / 10)})
	}
	must(s.Do(l...))
	was := s.Copy()
	one := api.Change{Kind: api.ChgSee, Sight: api.Sight{Name: named(5000)}, Until: 9}
	if e := s.Do(one); e != api.ErrSeen {
		t.Errorf("one more: %v", e)
	}
	if e := s.Do(l[77]); e != api.ErrTwice {
		t.Errorf("twice: %v", e)
	}
	if e := s.Do(prune(0), one, l[0], l[1], l[2], l[3], l[4], l[5], l[6], l[7], l[8], l[9]); e != api.ErrSeen {
		t.Errorf("pruned, and too many: %v", e)
	}
	if !keep.Same(s, was) {
		t.Error("refused, and another one")
	}
	if e := s.Do(prune(0), one); e != api.OK {
		t.Errorf("pruned: %v", e)
	}
	if sights, most := s.Seen().Len(); sights != 4087 || most != 4096 {
		t.Errorf("%d %d sights", sights, most)
	}
}

// P16.2

func TestGet(t *testing.T) {
	var l []api.Change
	for n := range 30 {
		l = append(l, put(n))
	}
	s := made(1<<16, l...)
	for n := range 30 {
		b, e := s.Get(named(n))
		if !bundle.Same(b, letter(n)) || e != api.OK {
			t.Errorf("Get(%d): %v %v", n, b, e)
		}
		// It is new memory.
		for i := range b.Payload {
			b.Payload[i] = 99
		}
		for i := range b.Extra.Path.L {
			b.Extra.Path.L[i].Gate = 99
		}
		if b, e := s.Get(named(n)); !bundle.Same(b, letter(n)) || e != api.OK {
			t.Errorf("Get(%d) again: %v %v", n, b, e)
		}
	}
}

func TestGetAndWhereWrong(t *testing.T) {
	s := made(1000, some()...)
	check := func(n api.Name, want api.Errno) {
		t.Helper()
		if b, e := s.Get(n); !reflect.DeepEqual(b, api.Bundle{}) || e != want {
			t.Errorf("Get(%v): %v %v", n, b, e)
		}
		if node, is, e := s.Where(n); node != 0 || is || e != want {
			t.Errorf("Where(%v): %d %v %v", n, node, is, e)
		}
	}
	for _, n := range wrongNames() {
		check(n, api.ErrArg)
	}
	for _, n := range []int{0, 6, 9, 99} {
		check(named(n), api.ErrNone)
	}
	modelled(1000, some()...).as(t, "asked", s)
}

func TestWhere(t *testing.T) {
	s := made(1000, some()...)
	for n, want := range map[int]uint32{1: 5, 2: 5, 4: 5, 5: 5, 7: most32, 8: 5} {
		if node, is, e := s.Where(named(n)); node != want || !is || e != api.OK {
			t.Errorf("Where(%d): %d %v %v", n, node, is, e)
		}
	}
	if node, is, e := s.Where(named(3)); node != 0 || is || e != api.OK {
		t.Errorf("in limbo: %d %v %v", node, is, e)
	}
}

func TestNames(t *testing.T) {
	s, want := made(1000, some()...), modelled(1000, some()...).names()
	seq := s.Names()
	for leave := range len(want) {
		var got []placed
		for n, node := range seq {
			got = append(got, placed{n, node})
			if len(got) > leave {
				break
			}
		}
		if !slices.Equal(got, want[:leave+1]) {
			t.Errorf("left behind %d: %v", leave, got)
		}
	}
	for i := range 3 {
		if got := told(seq); !slices.Equal(got, want) {
			t.Errorf("time %d: %v", i, got)
		}
	}
	if got := told(made(1000).Names()); len(got) != 0 {
		t.Errorf("of no bundles: %v", got)
	}
}

// They are in layer 5's order, however they came, and for whomever they wait.
func TestNamesInOrder(t *testing.T) {
	l := []api.Name{
		{Source: api.Endpoint{Node: 1, Service: 9}, Time: 9, Seq: 9},
		{Source: api.Endpoint{Node: 2}},
		{Source: api.Endpoint{Node: 2, Service: 1}, Time: 9, Seq: 9},
		{Source: api.Endpoint{Node: 2, Service: 2}, Time: 3, Seq: 9},
		{Source: api.Endpoint{Node: 2, Service: 2}, Time: 4, Seq: 5},
		{Source: api.Endpoint{Node: 2, Service: 2}, Time: 4, Seq: 16},
		{Source: api.Endpoint{Node: 2, Service: 2}, Time: 30, Seq: 1},
		{Source: api.Endpoint{Node: 2, Service: 2}, Time: forever},
		{Source: api.Endpoint{Node: 10}},
		{Source: api.Endpoint{Node: most32, Service: most32}, Time: forever, Seq: most32},
	}
	r := rand.New(rand.NewSource(16))
	for range 20 {
		s := made(1000)
		for _, i := range r.Perm(len(l)) {
			must(s.Do(add(coded(of(l[i], i%3, uint64(i), 0))), api.Change{Kind: api.ChgWait, Name: l[i], Node: uint32(100 - i)}))
		}
		for i, x := range told(s.Names()) {
			if x != (placed{l[i], uint32(100 - i)}) {
				t.Fatalf("%d: %v", i, x)
			}
		}
		if got := s.Dead(forever); !slices.Equal(got, l) {
			t.Fatalf("%v", got)
		}
	}
}

// What is gone over is as it was when it was asked for; meanwhile all may be changed.
func TestNamesAsAskedFor(t *testing.T) {
	s, m := made(1000, some()...), modelled(1000, some()...)
	seq, want := s.Names(), m.names()
	none := made(1000)
	empty := none.Names()
	must(none.Do(put(1)))
	if got := told(empty); len(got) != 0 {
		t.Errorf("of none: %v", got)
	}
	both(t, "others", s, m, api.OK, drop(1), put(9), wait(3, 8), limbo(2), wait(4, 9))
	if got := told(seq); !slices.Equal(got, want) {
		t.Errorf("%v, want %v", got, want)
	}
	want = m.names()
	var got []placed
	for n, node := range s.Names() {
		got = append(got, placed{n, node})
		both(t, "meanwhile", s, m, api.OK, api.Change{Kind: api.ChgDrop, Name: n}, put(59+len(got)))
	}
	if !slices.Equal(got, want) {
		t.Errorf("meanwhile: %v, want %v", got, want)
	}
}

// lives are bundles that expire at these times.
func lives(at ...uint64) (l []api.Change) {
	for i, n := range at {
		x := api.Name{Source: api.Endpoint{Node: 9 - uint32(i)}, Time: min(n, 3)}
		l = append(l, add(coded(of(x, 0, n-x.Time, 0))))
	}
	return l
}

func TestDead(t *testing.T) {
	s := made(1000, lives(12, 0, 7, 12, 13, forever)...)
	for at, want := range map[uint64][]uint32{
		0: {8}, 1: {8}, 6: {8}, 7: {7, 8}, 11: {7, 8}, 12: {6, 7, 8, 9}, 13: {5, 6, 7, 8, 9}, last: {5, 6, 7, 8, 9}, forever: {4, 5, 6, 7, 8, 9},
	} {
		var got []uint32
		for _, n := range s.Dead(at) {
			got = append(got, n.Source.Node)
		}
		if !slices.Equal(got, want) {
			t.Errorf("Dead(%d): %v, want %v", at, got, want)
		}
	}
	// An answer is new memory.
	clear(s.Dead(12))
	if got := s.Dead(7); len(got) != 2 || got[0].Source.Node != 7 {
		t.Errorf("%v", got)
	}
	if got := made(1000).Dead(forever); len(got) != 0 {
		t.Errorf("of no bundles: %v", got)
	}
	// Whether they wait counts for nothing.
	must(s.Do(api.Change{Kind: api.ChgWait, Name: s.Dead(0)[0], Node: 3}))
	if got := s.Dead(0); len(got) != 1 {
		t.Errorf("%v", got)
	}
}

// A sum of times above Forever is Forever.
func TestDeadBeyondForever(t *testing.T) {
	x := api.Name{Source: api.Endpoint{Node: 1}, Time: forever}
	s := made(1000, add(coded(of(x, 0, forever, 0))))
	if at, is := s.Next(); at != forever || !is {
		t.Errorf("Next: %d %v", at, is)
	}
	if len(s.Dead(last)) != 0 || len(s.Dead(forever)) != 1 {
		t.Errorf("Dead: %v %v", s.Dead(last), s.Dead(forever))
	}
}

func TestNext(t *testing.T) {
	s := made(1000)
	check := func(want uint64, some bool) {
		t.Helper()
		if at, is := s.Next(); at != want || is != some {
			t.Errorf("%d %v, want %d %v", at, is, want, some)
		}
	}
	check(0, false)
	times := []uint64{forever, last, 50, 60, 50, 7, 1, 0}
	for i, c := range lives(times...) {
		must(s.Do(c))
		check(slices.Min(times[:i+1]), true)
	}
	for _, want := range []uint64{0, 1, 7, 50, 60, last, forever} {
		check(want, true)
		for _, n := range s.Dead(want) {
			must(s.Do(api.Change{Kind: api.ChgDrop, Name: n}))
		}
	}
	check(0, false)
}

// P16.3

// What is done to a line, a table that was told is done to no store.
func TestLineAndSeen(t *testing.T) {
	s, m := made(1000, some()...), modelled(1000, some()...)
	line, table := s.Line(), s.Seen()
	_, e := line.Drop(named(1))
	must(e)
	must(line.Move(named(2), 77))
	must(line.Put(api.Wait{Name: named(60), Node: 5, Size: 9}))
	_, e = table.Prune(last)
	must(e)
	must(table.See(see(60, 5).Sight, 5))
	m.as(t, "told", s)
	line, table = s.Line(), s.Seen()
	m.queued(t, "again", line)
	// Nor the other way round.
	was := m.copy()
	both(t, "on", s, m, api.OK, wait(3, 5), drop(1), prune(last), see(60, 9))
	was.queued(t, "on", line)
	if !seen.Same(table, was.table()) {
		t.Error("another table")
	}
}

func TestUsed(t *testing.T) {
	s := made(300)
	check := func(want int) {
		t.Helper()
		if used, quota := s.Used(); used != want || quota != 300 {
			t.Errorf("%d %d, want %d", used, quota, want)
		}
	}
	check(0)
	must(s.Do(add(sized(1, 60)), see(1, 5)))
	check(60)
	must(s.Do(add(sized(2, 100)), wait(2, 5)))
	check(160)
	must(s.Do(limbo(2), drop(1), add(sized(3, 200))))
	check(300)
	must(s.Do(drop(3), drop(2)))
	check(0)
}

func TestCount(t *testing.T) {
	s := counted(100, [8]uint64{1, 2, 3, 4, 5, 6, 7, 8})
	for i := range 8 {
		if n, e := s.Count(i); n != uint64(i+1) || e != api.OK {
			t.Errorf("Count(%d): %d %v", i, n, e)
		}
	}
	for _, i := range []int{-1, -2, -8, 8, 9, 256, 1 << 32, math.MaxInt32, math.MinInt32, math.MaxInt, math.MinInt} {
		if n, e := s.Count(i); n != 0 || e != api.ErrArg {
			t.Errorf("Count(%d): %d %v", i, n, e)
		}
	}
}

// A copy, and what it is a copy of, go on apart.
func TestCopy(t *testing.T) {
	s, m := made(1000, some()...), modelled(1000, some()...)
	c, n := s.Copy(), m.copy()
	if c == s || !keep.Same(c, s) {
		t.Fatal("not the same")
	}
	n.as(t, "copy", c)
	l := []api.Change{drop(1), put(9), wait(3, 5), limbo(2), see(60, 4), prune(20), count(3), wait(9, 5)}
	for i, x := range l {
		both(t, fmt.Sprint("the copy ", i), c, n, api.OK, x)
		m.as(t, "copied", s)
	}
	for i, x := range []api.Change{count(5), prune(last), drop(7), wait(2, 8), put(6), see(3, 9), limbo(5)} {
		both(t, fmt.Sprint("copied ", i), s, m, api.OK, x)
		n.as(t, "the copy", c)
	}
	if c := made(0).Copy(); c == nil || !keep.Same(c, made(0)) {
		t.Error("of the quota 0")
	}
}

func TestSame(t *testing.T) {
	s := made(1000, some()...)
	if !keep.Same(s, s) || !keep.Same(s, made(1000, some()...)) || !keep.Same(made(0), made(0)) {
		t.Error("the same aren't")
	}
	other := letter(3)
	other.Extra.Age++
	for what, o := range map[string]*keep.Store{
		"nothing":         made(1000),
		"another quota":   made(999, some()...),
		"one less":        made(1000, append(some(), drop(3))...),
		"one more":        made(1000, append(some(), put(9))...),
		"another name":    made(1000, append(some(), drop(3), put(9))...),
		"other bytes":     made(1000, append(some(), drop(3), add(coded(other)))...),
		"one in limbo":    made(1000, append(some(), limbo(7))...),
		"one that waits":  made(1000, append(some(), wait(3, 5))...),
		"for another one": made(1000, append(some(), wait(7, 5))...),
		"in other order":  made(1000, append(some(), wait(2, 5))...),
		"a sight more":    made(1000, append(some(), see(60, 5))...),
		"a sight less":    made(1000, append(some(), prune(10))...),
		"until later":     made(1000, append(some(), prune(10), see(1, 11))...),
		"a count":         made(1000, append(some(), count(0))...),
		"the last count":  made(1000, append(some(), count(7))...),
	} {
		if keep.Same(s, o) || keep.Same(o, s) {
			t.Errorf("%s: the same", what)
		}
	}
	if keep.Same(made(0), made(1)) || keep.Same(made(9), counted(9, [8]uint64{5: 1})) {
		t.Error("the same, without bundles")
	}
	if !keep.Same(counted(9, [8]uint64{5: 1}), made(9, count(5))) {
		t.Error("of that count: not the same")
	}
}

// However it came about, what is the same is.
func TestSameWhateverCameFirst(t *testing.T) {
	a := made(1000, put(1), put(2), wait(1, 5), wait(2, 6), see(1, 5), see(2, 6), count(1), count(2))
	b := made(1000, put(9), count(2), see(2, 6), put(2), wait(2, 5), wait(2, 6), see(9, 4), drop(9), put(1), limbo(1), wait(1, 5), prune(4), see(1, 5), count(1))
	if !keep.Same(a, b) || !keep.Same(b, a) {
		t.Error("not the same")
	}
}

// P16.4

// Behind changes that could all be done, one that can't be done undoes all.
func TestRefusedLeavesAll(t *testing.T) {
	quota := modelled(1000, some()...).used() + 100
	could := []api.Change{drop(1), wait(3, 7), limbo(2), wait(4, 9), see(60, 9), prune(10), count(3), count(3), add(sized(60, 70)), wait(60, 5), drop(4), put(1)}
	for i := range len(could) + 1 {
		for _, c := range []api.Change{count(8), {}, put(2), see(9, 7), drop(99), limbo(6), wait(6, 5), add(sized(61, 900)), add(nil)} {
			s, m := made(quota, some()...), modelled(quota, some()...)
			was := s.Copy()
			l := slices.Concat(could[:i], []api.Change{c}, could[i:])
			if e := s.Do(l...); e == api.OK || e != m.do(l...) {
				t.Errorf("%d: %v", i, e)
			}
			if !keep.Same(s, was) {
				t.Errorf("%d: another one", i)
			}
			m.as(t, fmt.Sprint("refused ", i), s)
			// It is none the worse for it.
			both(t, "on", s, m, api.OK, could...)
		}
	}
}

// anyChange is one of a few that often fit together, or one that may not be.
func anyChange(r *rand.Rand) api.Change {
	n := r.Intn(14)
	node := []uint32{1, 5, 6, most32}[r.Intn(4)]
	switch r.Intn(16) {
	case 0, 1, 2, 3:
		return put(n)
	case 4:
		return drop(n)
	case 5, 6, 7, 8:
		return wait(n, node)
	case 9:
		return limbo(n)
	case 10, 11, 12:
		return see(r.Intn(40), uint64(r.Intn(30)))
	case 13:
		return prune(uint64(r.Intn(30)))
	case 14:
		return count(uint64(r.Intn(8)))
	}
	l := cheap()
	return l[r.Intn(len(l))]
}

// cheap are wrong changes without the ones of many bytes.
func cheap() []api.Change {
	return []api.Change{{}, {Kind: 8}, wait(1, 0), count(8), see(1, forever), prune(forever + 1), add(nil), {Kind: api.ChgDrop}, {Kind: api.ChgDrop, Name: named(1), Node: 1}}
}

// Whatever is done in whichever order: a store is as its model, and answers as it does.
func TestAnyChanges(t *testing.T) {
	r := rand.New(rand.NewSource(1))
	for round := range 40 {
		quota := []int{0, 60, 200, 400, 600, 1 << 20}[r.Intn(6)]
		s, m := made(quota), modelled(quota)
		for step := range 60 {
			var l []api.Change
			for range 1 + r.Intn(3)*r.Intn(3) {
				l = append(l, anyChange(r))
			}
			what := fmt.Sprintf("round %d step %d", round, step)
			was := s.Copy()
			e, f := s.Do(l...), m.do(l...)
			if e != f {
				t.Fatalf("%s: %v, want %v", what, e, f)
			}
			if e != api.OK && !keep.Same(s, was) {
				t.Fatalf("%s: refused, and another one", what)
			}
			if used, most := s.Used(); used > most {
				t.Fatalf("%s: %d are used", what, used)
			}
			if r.Intn(5) == 0 {
				s = s.Copy()
			}
			if step%4 == 0 {
				m.as(t, what, s)
			}
		}
		m.as(t, fmt.Sprint("round ", round), s)
	}
}

// What waits is there, of its size and its rank.
func TestWhatWaitsIsThere(t *testing.T) {
	r := rand.New(rand.NewSource(2))
	s := made(600)
	for range 600 {
		s.Do(anyChange(r), anyChange(r))
		waits := 0
		for node := range s.Line().Nodes() {
			for x := range s.Line().All(node) {
				b, e := s.Get(x.Name)
				if e != api.OK || len(coded(b)) != x.Size || int(b.Primary.Flags>>7) != x.Rank {
					t.Fatalf("%v: %v %v", x, b, e)
				}
				if at, is, e := s.Where(x.Name); at != node || !is || e != api.OK {
					t.Fatalf("%v: %d %v %v", x, at, is, e)
				}
				waits++
			}
		}
		for _, node := range told(s.Names()) {
			if node.node != 0 {
				waits--
			}
		}
		if waits != 0 {
			t.Fatalf("%d more wait than are there", waits)
		}
	}
}

// The rules of all layers

// A store that is not there, and one that neither New nor With made.
func TestNoStore(t *testing.T) {
	zero := keep.Store{}
	for _, s := range []*keep.Store{nil, {}, &zero} {
		for range 2 {
			none(t, s)
		}
		for _, o := range []*keep.Store{nil, {}, &zero} {
			if !keep.Same(s, o) {
				t.Error("none isn't like none")
			}
		}
		for _, o := range []*keep.Store{made(0), made(3), made(1000, some()...)} {
			if keep.Same(s, o) || keep.Same(o, s) {
				t.Error("none is like one")
			}
		}
	}
}

func none(t *testing.T, s *keep.Store) {
	t.Helper()
	for _, c := range append(cheap(), some()...) {
		if e := s.Do(c); e != api.ErrNil {
			t.Errorf("Do: %v", e)
		}
	}
	if e := s.Do(); e != api.ErrNil {
		t.Errorf("Do of nothing: %v", e)
	}
	for _, n := range append(wrongNames(), named(1), named(99)) {
		if b, e := s.Get(n); !reflect.DeepEqual(b, api.Bundle{}) || e != api.ErrNil {
			t.Errorf("Get: %v %v", b, e)
		}
		if node, is, e := s.Where(n); node != 0 || is || e != api.ErrNil {
			t.Errorf("Where: %d %v %v", node, is, e)
		}
	}
	for _, i := range []int{0, 7, -1, 8} {
		if n, e := s.Count(i); n != 0 || e != api.ErrNil {
			t.Errorf("Count: %d %v", n, e)
		}
	}
	if got := told(s.Names()); len(got) != 0 {
		t.Errorf("Names: %v", got)
	}
	if got := s.Dead(forever); len(got) != 0 {
		t.Errorf("Dead: %v", got)
	}
	if at, is := s.Next(); at != 0 || is {
		t.Errorf("Next: %d %v", at, is)
	}
	if s.Line() != nil || s.Seen() != nil || s.Copy() != nil {
		t.Errorf("%v %v %v", s.Line(), s.Seen(), s.Copy())
	}
	if used, quota := s.Used(); used != 0 || quota != 0 {
		t.Errorf("Used: %d %d", used, quota)
	}
}

// A store of the quota 0 is there.
func TestQuotaOfNone(t *testing.T) {
	s, m := made(0), modelled(0)
	both(t, "add", s, m, api.ErrQuota, put(1))
	both(t, "wait", s, m, api.ErrNone, wait(1, 5))
	both(t, "others", s, m, api.OK, see(1, 5), count(1), prune(3))
	if s.Line() == nil || s.Seen() == nil || s.Copy() == nil {
		t.Error("it is not there")
	}
}

// The chapter's examples.
func TestExamples(t *testing.T) {
	b := api.Bundle{
		Primary: api.Primary{To: api.Endpoint{Node: 2}, Source: api.Endpoint{Node: 1}, Time: 5, Seq: 6, Life: 7},
		Extra:   api.Extra{Limit: 9},
		Payload: []byte("hi"),
	}
	n := api.Name{Source: api.Endpoint{Node: 1}, Time: 5, Seq: 6}
	s, e := keep.New(100)
	if e != api.OK {
		t.Fatalf("New: %v", e)
	}
	if e := s.Do(add(coded(b))); e != api.OK {
		t.Errorf("add b: %v", e)
	}
	if e := s.Do(api.Change{Kind: api.ChgWait, Name: n, Node: 5}); e != api.OK {
		t.Errorf("wait b: %v", e)
	}
	if node, is, e := s.Where(n); node != 5 || !is || e != api.OK {
		t.Errorf("Where: %d %v %v", node, is, e)
	}
	if used, quota := s.Used(); used != 51 || quota != 100 {
		t.Errorf("Used: %d %d", used, quota)
	}
	if e := s.Do(add(coded(b))); e != api.ErrTwice {
		t.Errorf("add b again: %v", e)
	}
	b.Primary.Seq++
	if e := s.Do(count(2), add(coded(b))); e != api.ErrQuota || len(coded(b)) != 51 {
		t.Errorf("another of 51: %v", e)
	}
	if x, e := s.Count(2); x != 0 || e != api.OK {
		t.Errorf("Count: %d %v", x, e)
	}
	if l := s.Dead(12); !slices.Equal(l, []api.Name{n}) {
		t.Errorf("Dead: %v", l)
	}
	if e := s.Do(api.Change{Kind: api.ChgDrop, Name: n}); e != api.OK {
		t.Errorf("drop b: %v", e)
	}
	if used, quota := s.Used(); used != 0 || quota != 100 {
		t.Errorf("Used: %d %d", used, quota)
	}
}
