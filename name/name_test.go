package name_test

import (
	"fmt"
	"math"
	"math/big"
	"math/rand"
	"reflect"
	"regexp"
	"slices"
	"strings"
	"testing"

	"packsaddle/api"
	"packsaddle/cbor"
	"packsaddle/name"
)

func end(node, service uint32) api.Endpoint { return api.Endpoint{Node: node, Service: service} }

func named(node, service uint32, time uint64, seq uint32) api.Name {
	return api.Name{Source: end(node, service), Time: time, Seq: seq}
}

func number(n uint64) api.Item    { return api.Item{Kind: api.ItemUint, N: n} }
func text(s string) api.Item      { return api.Item{Kind: api.ItemText, S: s} }
func data(b ...byte) api.Item     { return api.Item{Kind: api.ItemBytes, B: b} }
func list(l ...api.Item) api.Item { return api.Item{Kind: api.ItemList, L: l} }
func truth(n uint64) api.Item     { return api.Item{Kind: api.ItemBool, N: n} }

// null is an item by itself.
var null = api.Item{Kind: api.ItemNull}

// nobody is the item that nobody has, source that of the endpoint of two numbers.
var nobody = list(number(1), number(0))

func source(node, service uint64) api.Item {
	return list(number(2), list(number(node), number(service)))
}

// short tells an item without filling the page.
func short(x api.Item) string { return fmt.Sprintf("%.200q", fmt.Sprintf("%+v", x)) }

// shorts are numbers of 32 bits of many sizes.
func shorts() []uint32 {
	return []uint32{0, 1, 2, 3, 9, 10, 11, 23, 24, 99, 100, 255, 256, 65535, 65536, 1<<31 - 1, 1 << 31, 999999999, 1000000000, 1<<32 - 2, 1<<32 - 1}
}

// times are numbers on both sides of the bound of times.
func times() []uint64 {
	return []uint64{0, 1, 7, 9, 10, 24, 1<<32 - 1, 1 << 32, api.Forever - 1, api.Forever, api.Forever + 1, 1<<63 - 1, 1 << 63, math.MaxUint64 - 1, math.MaxUint64}
}

// ends are endpoints of all these numbers, those that may not be among them.
func ends() []api.Endpoint {
	var l []api.Endpoint
	for _, node := range shorts() {
		for _, service := range shorts() {
			l = append(l, end(node, service))
		}
	}
	return l
}

// names are some of these numbers, those that may not be among them.
func names() []api.Name {
	var l []api.Name
	for _, node := range []uint32{0, 1, 3, 10, 1<<32 - 1} {
		for _, service := range []uint32{0, 1, 5, 10, 1<<32 - 1} {
			for _, time := range times() {
				for _, seq := range []uint32{0, 1, 9, 10, 1<<32 - 1} {
					l = append(l, named(node, service, time, seq))
				}
			}
		}
	}
	return l
}

// may tells which endpoints may be, mayName which names.
func may(x api.Endpoint) bool { return x.Node > 0 || x.Service == 0 }
func mayName(x api.Name) bool { return x.Source.Node > 0 && x.Time <= api.Forever }

// refused is the error of what may not be.
func refused(may bool) api.Errno {
	if may {
		return api.OK
	}
	return api.ErrArg
}

// P5.1

func TestCheck(t *testing.T) {
	for _, x := range ends() {
		if e := name.Check(x); e != refused(may(x)) {
			t.Errorf("Check(%v): %v", x, e)
		}
	}
	for _, c := range []struct {
		x    api.Endpoint
		want api.Errno
	}{
		{end(0, 0), api.OK}, {end(0, 1), api.ErrArg}, {end(0, 1<<32-1), api.ErrArg}, {end(1, 0), api.OK}, {end(3, 5), api.OK}, {end(1<<32-1, 0), api.OK}, {end(1<<32-1, 1<<32-1), api.OK},
	} {
		if e := name.Check(c.x); e != c.want {
			t.Errorf("Check(%v): %v", c.x, e)
		}
	}
}

func TestCheckName(t *testing.T) {
	for _, x := range names() {
		if e := name.CheckName(x); e != refused(mayName(x)) {
			t.Errorf("CheckName(%v): %v", x, e)
		}
	}
	for _, c := range []struct {
		x    api.Name
		want api.Errno
	}{
		{api.Name{}, api.ErrArg}, {named(0, 0, 7, 9), api.ErrArg}, {named(0, 1, 7, 9), api.ErrArg}, {named(1, 0, 0, 0), api.OK}, {named(3, 5, 7, 9), api.OK},
		{named(3, 5, api.Forever, 9), api.OK}, {named(3, 5, api.Forever+1, 9), api.ErrArg}, {named(3, 5, math.MaxUint64, 9), api.ErrArg},
		{named(1<<32-1, 1<<32-1, api.Forever, 1<<32-1), api.OK}, {named(0, 1, math.MaxUint64, 0), api.ErrArg},
	} {
		if e := name.CheckName(c.x); e != c.want {
			t.Errorf("CheckName(%v): %v", c.x, e)
		}
	}
}

func TestText(t *testing.T) {
	for _, c := range []struct {
		x    api.Endpoint
		want string
	}{
		{end(0, 0), "dtn:none"}, {end(3, 5), "ipn:3.5"}, {end(1, 0), "ipn:1.0"}, {end(10, 20), "ipn:10.20"}, {end(1<<32-1, 1<<32-1), "ipn:4294967295.4294967295"}, {end(1<<31, 1<<31), "ipn:2147483648.2147483648"},
	} {
		if s, e := name.Text(c.x); s != c.want || e != api.OK {
			t.Errorf("Text(%v): %q %v", c.x, s, e)
		}
	}
	for _, x := range ends() {
		want := fmt.Sprintf("ipn:%d.%d", x.Node, x.Service)
		switch {
		case !may(x):
			want = ""
		case x == end(0, 0):
			want = "dtn:none"
		}
		if s, e := name.Text(x); s != want || e != refused(may(x)) {
			t.Errorf("Text(%v): %q %v", x, s, e)
		}
	}
}

func TestNameText(t *testing.T) {
	for _, c := range []struct {
		x    api.Name
		want string
	}{
		{named(3, 5, 7, 9), "ipn:3.5 7 9"}, {named(1, 0, 0, 0), "ipn:1.0 0 0"}, {named(1<<32-1, 1<<32-1, api.Forever, 1<<32-1), "ipn:4294967295.4294967295 4611686018427387903 4294967295"},
	} {
		if s, e := name.NameText(c.x); s != c.want || e != api.OK {
			t.Errorf("NameText(%v): %q %v", c.x, s, e)
		}
	}
	for _, x := range names() {
		want := ""
		if mayName(x) {
			want = fmt.Sprintf("ipn:%d.%d %d %d", x.Source.Node, x.Source.Service, x.Time, x.Seq)
		}
		if s, e := name.NameText(x); s != want || e != refused(mayName(x)) {
			t.Errorf("NameText(%v): %q %v", x, s, e)
		}
	}
}

// unparsed holds Parse of a text, and ParseName of it, against the error that it is to have.
func unparsed(t *testing.T, s string, want api.Errno) {
	t.Helper()
	if x, e := name.Parse(s); x != (api.Endpoint{}) || e != want {
		t.Errorf("Parse(%.120q): %v %v, not %v", s, x, e, want)
	}
	if x, e := name.ParseName(s); x != (api.Name{}) || e != want {
		t.Errorf("ParseName(%.120q): %v %v, not %v", s, x, e, want)
	}
}

// noEndpoints are texts of no endpoint and no name.
func noEndpoints() []string {
	return []string{
		"", " ", ":", ".", "3", "3.5", "ipn", "ipn:", "ipn:.", "ipn:3", "ipn:3.", "ipn:.5", "ipn:3.5.", "ipn:3.5.7", "ipn::3.5", "ipn:3..5", "ipn3.5", "ipn 3.5", "ipn:3:5", "ipn:3,5", "ipn:3 5",
		// Noughts ahead, and other forms of numbers.
		"ipn:03.5", "ipn:3.05", "ipn:00.0", "ipn:1.00", "ipn:+3.5", "ipn:3.+5", "ipn:-3.5", "ipn:3.-5", "ipn:3.-0", "ipn:0x3.5", "ipn:3.0x5", "ipn:1_0.5", "ipn:1e1.5", "ipn:a.5", "ipn:3.b", "ipn:3.5a", "ipn:\u0663.5", "ipn:3.\uff15",
		// Numbers that are too great.
		"ipn:4294967296.5", "ipn:3.4294967296", "ipn:10000000000.5", "ipn:3.10000000000", "ipn:18446744073709551616.5", "ipn:3.18446744073709551617", "ipn:18446744073709551619.5", "ipn:3.99999999999999999999999999999999999", "ipn:4294967299.5", "ipn:3.4294967301",
		// No node.
		"ipn:0.0", "ipn:0.1", "ipn:0.5", "ipn:0.4294967295",
		// Nobody has one text.
		"dtn", "dtn:", "none", "dtn:non", "dtn:nonee", "dtn:None", "DTN:none", "Dtn:none", "dtn::none", "dtn:none:", "dtn:none.", "dtn:none ", " dtn:none", "dtn: none", "dtn:0.0", "dtn:3.5", "ipn:none", "dtn.none", "dtn:none\x00", "dtn:\xffnone",
		// Other schemes, blanks, what is no text.
		"IPN:3.5", "Ipn:3.5", "ipm:3.5", "ip:3.5", "xipn:3.5", "ipn:ipn:3.5", "tcp:3.5", "://3.5", "ipn://3.5", " ipn:3.5", "ipn:3.5 ", "ipn :3.5", "ipn: 3.5", "ipn:3 .5", "ipn:3. 5", "ipn:3.5\n", "\tipn:3.5", "ipn:3.5\x00",
		"\xff", "ipn:\xff.5", "ipn:3.\xff", "ipn:3.5\xff", "\xffipn:3.5", "ipn\xff:3.5", "ipn:3\xff.5", "ipn:3.5\xc3", "\uFEFFipn:3.5", "\uFFFDipn:3.5", "ipn:3\uFF0E5", "ipn\uFF1A3.5",
	}
}

// noNames are texts of no name that begin with one of an endpoint.
func noNames() []string {
	return []string{
		"ipn:3.5", "ipn:3.5 ", "ipn:3.5 7", "ipn:3.5 7 ", "ipn:3.5  7", "ipn:3.5  7 9", "ipn:3.5 7  9", "ipn:3.5 7 9 ", " ipn:3.5 7 9", "ipn:3.5 7 9 1", "ipn:3.5 7 9\n", "ipn:3.5 7 9\x00", "ipn:3.5 7\t9", "ipn:3.5\t7 9", "ipn:3.5\u00a07 9", "ipn:3.5,7,9", "ipn:3.5.7.9", "7 9", " 7 9", "3.5 7 9", "ipn: 7 9", "ipn:3 7 9",
		"ipn:3.5 07 9", "ipn:3.5 7 09", "ipn:3.5 00 0", "ipn:3.5 0 00", "ipn:03.5 7 9", "ipn:3.05 7 9", "ipn:3.5 +7 9", "ipn:3.5 7 +9", "ipn:3.5 -7 9", "ipn:3.5 7 -9", "ipn:3.5 0x7 9", "ipn:3.5 a 9", "ipn:3.5 7 b", "ipn:3.5 7. 9", "ipn:3.5 7 9.", "ipn:3.5 7_0 9",
		// Nobody is no source.
		"dtn:none 7 9", "dtn:none 0 0", "ipn:0.0 7 9", "ipn:0.1 7 9", "none 7 9", "dtn:none", "dtn:none  ",
		// Numbers that are too great.
		"ipn:3.5 4611686018427387904 9", "ipn:3.5 9223372036854775808 9", "ipn:3.5 18446744073709551615 9", "ipn:3.5 18446744073709551616 9", "ipn:3.5 18446744073709551623 9", "ipn:3.5 99999999999999999999999 9",
		"ipn:3.5 7 4294967296", "ipn:3.5 7 4294967305", "ipn:3.5 7 18446744073709551616", "ipn:3.5 7 18446744073709551625", "ipn:4294967296.5 7 9", "ipn:3.4294967296 7 9",
		"\xff 7 9", "ipn:3.5\xff 7 9", "ipn:3.5 \xff 9", "ipn:3.5 7 \xff", "ipn:3.5 7\xff 9", "ipn:3.5 7 9\xff",
	}
}

func TestParse(t *testing.T) {
	for _, c := range []struct {
		s    string
		want api.Endpoint
	}{
		{"dtn:none", end(0, 0)}, {"ipn:3.5", end(3, 5)}, {"ipn:1.0", end(1, 0)}, {"ipn:10.20", end(10, 20)}, {"ipn:100.0", end(100, 0)}, {"ipn:4294967295.4294967295", end(1<<32-1, 1<<32-1)}, {"ipn:4294967294.0", end(1<<32-2, 0)},
	} {
		if x, e := name.Parse(c.s); x != c.want || e != api.OK {
			t.Errorf("Parse(%q): %v %v", c.s, x, e)
		}
	}
	for _, s := range noEndpoints() {
		unparsed(t, s, api.ErrName)
	}
	// A name isn't an endpoint.
	if x, e := name.Parse("ipn:3.5 7 9"); x != (api.Endpoint{}) || e != api.ErrName {
		t.Errorf("Parse of a name: %v %v", x, e)
	}
}

func TestParseName(t *testing.T) {
	for _, c := range []struct {
		s    string
		want api.Name
	}{
		{"ipn:3.5 7 9", named(3, 5, 7, 9)}, {"ipn:1.0 0 0", named(1, 0, 0, 0)}, {"ipn:10.20 30 40", named(10, 20, 30, 40)}, {"ipn:3.5 4294967296 9", named(3, 5, 1<<32, 9)},
		{"ipn:3.5 4611686018427387902 9", named(3, 5, api.Forever-1, 9)}, {"ipn:4294967295.4294967295 4611686018427387903 4294967295", named(1<<32-1, 1<<32-1, api.Forever, 1<<32-1)},
	} {
		if x, e := name.ParseName(c.s); x != c.want || e != api.OK {
			t.Errorf("ParseName(%q): %v %v", c.s, x, e)
		}
	}
	for _, s := range noNames() {
		if x, e := name.ParseName(s); x != (api.Name{}) || e != api.ErrName {
			t.Errorf("ParseName(%q): %v %v", s, x, e)
		}
	}
}

func TestLongTextsAreRefused(t *testing.T) {
	for _, s := range []string{"", "ipn:3.5", "ipn:3.5 7 9", "dtn:none", "\xff", "ipn:", "é", " "} {
		for _, fill := range []string{"0", " ", "x", "\xff", "9"} {
			short := s + strings.Repeat(fill, 100-len(s))
			unparsed(t, short, api.ErrName)
			unparsed(t, short+fill, api.ErrLong)
			unparsed(t, short+strings.Repeat(fill, 1<<16), api.ErrLong)
		}
	}
	// Bytes are counted, not runes.
	unparsed(t, strings.Repeat("é", 50), api.ErrName)
	unparsed(t, strings.Repeat("é", 51), api.ErrLong)
	unparsed(t, strings.Repeat("0", 1<<24), api.ErrLong)
}

// Another road: a pattern, and numbers that know no bound.
var (
	endPattern  = regexp.MustCompile(`^ipn:([1-9][0-9]*)\.(0|[1-9][0-9]*)$`)
	namePattern = regexp.MustCompile(`^ipn:([1-9][0-9]*)\.(0|[1-9][0-9]*) (0|[1-9][0-9]*) (0|[1-9][0-9]*)$`)
)

// matched are the numbers in a text of that pattern, if none is above its bound.
func matched(pattern *regexp.Regexp, s string, bounds ...uint64) ([]uint64, bool) {
	found := pattern.FindStringSubmatch(s)
	if found == nil {
		return make([]uint64, len(bounds)), false
	}
	var l []uint64
	for i, bound := range bounds {
		n, _ := new(big.Int).SetString(found[i+1], 10)
		if n.Cmp(new(big.Int).SetUint64(bound)) > 0 {
			return make([]uint64, len(bounds)), false
		}
		l = append(l, n.Uint64())
	}
	return l, true
}

// held holds Parse and ParseName of a text against what the other road finds.
func held(t *testing.T, s string) {
	t.Helper()
	l, is := matched(endPattern, s, api.MaxNode, api.MaxNode)
	x, e := name.Parse(s)
	if x != end(uint32(l[0]), uint32(l[1])) || (e == api.OK) != (is || s == "dtn:none") || e != api.OK && e != api.ErrName {
		t.Errorf("Parse(%q): %v %v", s, x, e)
	}
	l, is = matched(namePattern, s, api.MaxNode, api.MaxNode, api.Forever, api.MaxNode)
	y, e := name.ParseName(s)
	if y != named(uint32(l[0]), uint32(l[1]), l[2], uint32(l[3])) || (e == api.OK) != is || e != api.OK && e != api.ErrName {
		t.Errorf("ParseName(%q): %v %v", s, y, e)
	}
}

func TestParseByAnotherRoad(t *testing.T) {
	chance := rand.New(rand.NewSource(5))
	tokens := []string{"ipn", "dtn", "none", ":", ".", " ", "0", "00", "1", "3", "42", "05", "4294967295", "4294967296", "4611686018427387903", "4611686018427387904", "18446744073709551616", "-1", "+1", "x", "\xff", "é"}
	for _, s := range append(noEndpoints(), noNames()...) {
		held(t, s)
	}
	for range 50000 {
		// Mostly the form of an endpoint or a name, with some parts exchanged, left out, or told twice.
		form := []string{"ipn", ":", tokens[6+chance.Intn(10)], ".", tokens[6+chance.Intn(10)], " ", tokens[6+chance.Intn(10)], " ", tokens[6+chance.Intn(10)]}
		form = form[:[]int{5, 9, chance.Intn(10)}[chance.Intn(3)]]
		for range chance.Intn(3) {
			if at := chance.Intn(len(form) + 1); at < len(form) {
				form[at] = []string{"", form[at] + form[at], tokens[chance.Intn(len(tokens))]}[chance.Intn(3)]
			}
		}
		if s := strings.Join(form, ""); len(s) <= 100 {
			held(t, s)
		}
	}
}

func FuzzParse(f *testing.F) {
	for _, s := range append(noEndpoints(), "ipn:3.5", "ipn:3.5 7 9", "dtn:none", "ipn:4294967295.4294967295 4611686018427387903 4294967295") {
		f.Add(s)
	}
	f.Fuzz(func(t *testing.T, s string) {
		if len(s) > 100 {
			unparsed(t, s, api.ErrLong)
			return
		}
		held(t, s)
	})
}

// P5.2

func TestItem(t *testing.T) {
	for _, c := range []struct {
		x    api.Endpoint
		want api.Item
		b    string
	}{
		{end(0, 0), nobody, "\x82\x01\x00"}, {end(3, 5), source(3, 5), "\x82\x02\x82\x03\x05"}, {end(1, 0), source(1, 0), "\x82\x02\x82\x01\x00"},
		{end(1<<32-1, 1<<32-1), source(api.MaxNode, api.MaxNode), "\x82\x02\x82\x1a\xff\xff\xff\xff\x1a\xff\xff\xff\xff"},
	} {
		x, e := name.Item(c.x)
		if b, f := cbor.Encode(x); !cbor.Same(x, c.want) || e != api.OK || string(b) != c.b || f != api.OK {
			t.Errorf("Item(%v): %s %v, % x %v", c.x, short(x), e, b, f)
		}
	}
	for _, x := range ends() {
		want := source(uint64(x.Node), uint64(x.Service))
		switch {
		case !may(x):
			want = api.Item{}
		case x == end(0, 0):
			want = nobody
		}
		if y, e := name.Item(x); !cbor.Same(y, want) || e != refused(may(x)) {
			t.Errorf("Item(%v): %s %v", x, short(y), e)
		}
	}
}

func TestNameItem(t *testing.T) {
	x, e := name.NameItem(named(3, 5, 7, 9))
	if b, f := cbor.Encode(x); e != api.OK || string(b) != "\x83\x82\x02\x82\x03\x05\x07\x09" || f != api.OK {
		t.Errorf("NameItem: %s %v, % x %v", short(x), e, b, f)
	}
	for _, x := range names() {
		want := list(source(uint64(x.Source.Node), uint64(x.Source.Service)), number(x.Time), number(uint64(x.Seq)))
		if !mayName(x) {
			want = api.Item{}
		}
		if y, e := name.NameItem(x); !cbor.Same(y, want) || e != refused(mayName(x)) {
			t.Errorf("NameItem(%v): %s %v", x, short(y), e)
		}
	}
}

func TestAnItemIsNewMemory(t *testing.T) {
	for _, c := range []func() (api.Item, api.Errno){
		func() (api.Item, api.Errno) { return name.Item(end(0, 0)) },
		func() (api.Item, api.Errno) { return name.Item(end(3, 5)) },
		func() (api.Item, api.Errno) { return name.NameItem(named(3, 5, 7, 9)) },
	} {
		x, _ := c()
		want, _ := cbor.Encode(x)
		spoil(x)
		y, _ := c()
		if b, e := cbor.Encode(y); string(b) != string(want) || e != api.OK {
			t.Errorf("behind a change: % x %v, not % x", b, e, want)
		}
	}
}

// spoil puts another thing at each place of an item's lists.
func spoil(x api.Item) {
	for i := range x.L {
		spoil(x.L[i])
		x.L[i] = text("spoilt")
	}
}

// unread holds Of and NameOf of an item against ErrName.
func unread(t *testing.T, x api.Item) {
	t.Helper()
	if y, e := name.Of(x); y != (api.Endpoint{}) || e != api.ErrName {
		t.Errorf("Of %s: %v %v", short(x), y, e)
	}
	if y, e := name.NameOf(x); y != (api.Name{}) || e != api.ErrName {
		t.Errorf("NameOf %s: %v %v", short(x), y, e)
	}
}

// besides are items that have what their kind doesn't name beside what another one has.
func besides(x api.Item) []api.Item {
	a, b, c, d, e := x, x, x, x, x
	a.N += 1 << 40
	b.B = []byte{0}
	c.S = "a"
	d.L = append(slices.Clone(x.L), number(0))
	e.Kind = api.ItemKind(99)
	return []api.Item{a, b, c, d, e}
}

// others are items that no number's place, no list's place has.
func others() []api.Item {
	return []api.Item{{}, null, truth(0), truth(1), data(), data(1), data(3, 5), text(""), text("1"), text("ipn:3.5"), text("dtn:none"), list(), list(null), list(number(1)), {Kind: -1}, {Kind: 7}, {Kind: math.MaxInt}, {N: 3}}
}

func TestOf(t *testing.T) {
	for _, c := range []struct {
		x    api.Item
		want api.Endpoint
	}{
		{nobody, end(0, 0)}, {source(3, 5), end(3, 5)}, {source(1, 0), end(1, 0)}, {source(api.MaxNode, api.MaxNode), end(1<<32-1, 1<<32-1)},
		// Nil and empty mean the same, inside too.
		{list(number(1), api.Item{Kind: api.ItemUint, B: []byte{}, L: []api.Item{}}), end(0, 0)},
		{api.Item{Kind: api.ItemList, B: []byte{}, L: []api.Item{number(2), {Kind: api.ItemList, B: []byte{}, L: []api.Item{number(3), {Kind: api.ItemUint, N: 5, B: []byte{}, L: []api.Item{}}}}}}, end(3, 5)},
	} {
		if y, e := name.Of(c.x); y != c.want || e != api.OK {
			t.Errorf("Of %s: %v %v", short(c.x), y, e)
		}
	}
}

func TestOfRefuses(t *testing.T) {
	for _, x := range others() {
		unread(t, x)
		for _, y := range []api.Item{list(x, number(0)), list(number(1), x), list(x, x), list(number(2), x), list(number(2), list(x, number(5))), list(number(2), list(number(3), x)), list(x, list(number(3), number(5)))} {
			unread(t, y)
		}
	}
	for _, x := range []api.Item{
		number(0), number(1), number(2), number(3),
		// Other numbers ahead, and what is behind another one.
		list(number(0), number(0)), list(number(1), number(1)), list(number(1), number(5)), list(number(2), number(0)), list(number(2), number(3)), list(number(3), number(0)), list(number(math.MaxUint64), number(0)), list(number(1<<32+1), number(0)), list(number(1), number(1<<32)),
		list(number(1), list(number(3), number(5))), list(number(1), list(number(0), number(0))), list(number(1), list()), list(number(0), list(number(3), number(5))), list(number(3), list(number(3), number(5))), list(number(1<<32+2), list(number(3), number(5))),
		// Fewer and more.
		list(), list(number(1)), list(number(2)), list(number(1), number(0), number(0)), list(number(1), number(0), null), list(number(2), number(3), number(5)), list(number(3), number(5)), list(list(number(3), number(5))),
		list(number(2), list()), list(number(2), list(number(3))), list(number(2), list(number(3), number(5), number(7))), list(number(2), list(number(3), number(5)), number(7)), list(number(2), list(number(3), number(5)), null),
		list(source(3, 5)), list(nobody), list(number(2), list(list(number(3), number(5)))), list(number(2), source(3, 5)), list(list(number(3), number(5)), number(2)), list(number(0), number(1)),
		// No node, and numbers that are too great.
		source(0, 0), source(0, 1), source(0, api.MaxNode), source(0, api.MaxNode+1), source(api.MaxNode+1, 5), source(3, api.MaxNode+1), source(1<<32+3, 5), source(3, 1<<32+5), source(math.MaxUint64, 5), source(3, math.MaxUint64), source(1<<32, 0), source(1<<32, 1<<32),
	} {
		unread(t, x)
	}
	for _, x := range slices.Concat(besides(nobody), besides(source(3, 5))) {
		unread(t, x)
	}
	for _, x := range slices.Concat(besides(number(1)), besides(number(2))) {
		unread(t, list(x, number(0)))
		unread(t, list(x, list(number(3), number(5))))
	}
	for _, x := range besides(number(0)) {
		unread(t, list(number(1), x))
		unread(t, list(number(2), list(number(3), x)))
	}
	for _, x := range besides(number(3)) {
		unread(t, list(number(2), list(x, number(5))))
	}
	for _, x := range besides(list(number(3), number(5))) {
		unread(t, list(number(2), x))
	}
}

func TestNameOf(t *testing.T) {
	for _, c := range []struct {
		x    api.Item
		want api.Name
	}{
		{list(source(3, 5), number(7), number(9)), named(3, 5, 7, 9)}, {list(source(1, 0), number(0), number(0)), named(1, 0, 0, 0)},
		{list(source(api.MaxNode, api.MaxNode), number(api.Forever), number(api.MaxNode)), named(1<<32-1, 1<<32-1, api.Forever, 1<<32-1)},
		{api.Item{Kind: api.ItemList, B: []byte{}, L: []api.Item{source(3, 5), {Kind: api.ItemUint, N: 7, B: []byte{}}, {Kind: api.ItemUint, N: 9, L: []api.Item{}}}}, named(3, 5, 7, 9)},
	} {
		if y, e := name.NameOf(c.x); y != c.want || e != api.OK {
			t.Errorf("NameOf %s: %v %v", short(c.x), y, e)
		}
		// A name's item is no endpoint's.
		if y, e := name.Of(c.x); y != (api.Endpoint{}) || e != api.ErrName {
			t.Errorf("Of %s: %v %v", short(c.x), y, e)
		}
	}
	for _, x := range []api.Item{nobody, source(3, 5)} {
		if y, e := name.NameOf(x); y != (api.Name{}) || e != api.ErrName {
			t.Errorf("NameOf %s: %v %v", short(x), y, e)
		}
	}
}

func TestNameOfRefuses(t *testing.T) {
	good := list(source(3, 5), number(7), number(9))
	for _, x := range append(others(), nobody) {
		unread(t, list(x, number(7), number(9)))
		unread(t, list(source(3, 5), x, number(9)))
		unread(t, list(source(3, 5), number(7), x))
		unread(t, list(x, x, x))
	}
	for _, x := range []api.Item{
		list(), list(source(3, 5)), list(source(3, 5), number(7)), list(source(3, 5), number(7), number(9), number(0)), list(source(3, 5), number(7), number(9), null), list(good), list(source(3, 5), list(number(7), number(9))), list(number(3), number(7), number(9)),
		list(number(3), number(5), number(7), number(9)), list(number(2), list(number(3), number(5)), number(7), number(9)), list(number(7), number(9), source(3, 5)), list(list(number(3), number(5)), number(7), number(9)),
		// Nobody is no source.
		list(nobody, number(7), number(9)), list(nobody, number(0), number(0)), list(source(0, 0), number(7), number(9)), list(source(0, 1), number(7), number(9)),
		// Numbers that are too great.
		list(source(3, 5), number(api.Forever+1), number(9)), list(source(3, 5), number(1<<63), number(9)), list(source(3, 5), number(math.MaxUint64), number(9)), list(source(3, 5), number(7), number(api.MaxNode+1)), list(source(3, 5), number(7), number(1<<32+9)), list(source(3, 5), number(7), number(math.MaxUint64)),
		list(source(api.MaxNode+1, 5), number(7), number(9)), list(source(3, api.MaxNode+1), number(7), number(9)),
	} {
		unread(t, x)
	}
	for _, x := range besides(good) {
		unread(t, x)
	}
	for _, x := range besides(source(3, 5)) {
		unread(t, list(x, number(7), number(9)))
	}
	for i, x := range besides(number(7)) {
		// A time may be as great as the first of these.
		if i > 0 {
			unread(t, list(source(3, 5), x, number(9)))
		}
		unread(t, list(source(3, 5), number(7), x))
	}
}

// doubled is an item that is a list of its last one twice, so many times: no one goes through all of it.
func doubled(times int) api.Item {
	x := number(1)
	for range times {
		x = list(x, x)
	}
	return x
}

func TestItemsWithoutEndAreRefused(t *testing.T) {
	self := list(null, null, null)
	self.L[0], self.L[1], self.L[2] = self, self, self
	twin := list(number(2), null)
	twin.L[1] = twin
	for _, x := range []api.Item{
		self, twin, list(self.L[0], number(7), number(9)), list(source(3, 5), self, number(9)), list(number(1), self), list(number(2), list(self, number(5))),
		doubled(60), list(number(1), doubled(60)), list(number(2), doubled(60)), list(number(2), list(number(3), doubled(60))), list(source(3, 5), number(7), doubled(60)), list(doubled(60), number(7), number(9)), list(doubled(60), doubled(60), doubled(60)),
		list(slices.Repeat([]api.Item{number(1)}, 1<<16)...), list(number(2), list(slices.Repeat([]api.Item{number(1)}, 1<<16)...)), {Kind: api.ItemUint, N: 1, L: doubled(60).L},
	} {
		if y, e := name.Of(x); y != (api.Endpoint{}) || e != api.ErrName {
			t.Errorf("Of: %v %v", y, e)
		}
		if y, e := name.NameOf(x); y != (api.Name{}) || e != api.ErrName {
			t.Errorf("NameOf: %v %v", y, e)
		}
	}
}

func TestItemsAreNotChanged(t *testing.T) {
	for _, make := range []func() api.Item{
		func() api.Item { return nobody }, func() api.Item { return source(3, 5) }, func() api.Item { return list(source(3, 5), number(7), number(9)) },
		func() api.Item { return list(source(0, 5), text("a"), number(9)) }, func() api.Item { return list(number(1), number(0), data(1)) },
	} {
		x := make()
		name.Of(x)
		name.NameOf(x)
		if !reflect.DeepEqual(x, make()) {
			t.Errorf("changed: %s", short(x))
		}
	}
}

// P5.3

// rank is a name's parts in the order of names, as digits of equal length.
func rank(x api.Name) string {
	return fmt.Sprintf("%010d %010d %020d %010d", x.Source.Node, x.Source.Service, x.Time, x.Seq)
}

func TestOrder(t *testing.T) {
	for _, c := range []struct {
		a, b api.Name
		want int
	}{
		{api.Name{}, api.Name{}, 0}, {named(3, 5, 7, 9), named(3, 5, 7, 9), 0}, {named(3, 5, 7, 9), named(3, 5, 8, 0), -1}, {named(3, 5, 7, 9), named(3, 5, 7, 10), -1}, {named(3, 5, 7, 9), named(3, 6, 0, 0), -1}, {named(3, 5, 7, 9), named(4, 0, 0, 0), -1},
		{named(10, 0, 0, 0), named(9, 0, 0, 0), 1}, {named(1, 10, 0, 0), named(1, 9, 0, 0), 1}, {named(1, 1, 10, 0), named(1, 1, 9, 0), 1}, {named(1, 1, 1, 10), named(1, 1, 1, 9), 1},
		{named(1<<32-1, 0, 0, 0), named(1, 0, 0, 0), 1}, {named(1, 1<<32-1, 0, 0), named(1, 1, 0, 0), 1}, {named(1, 1, math.MaxUint64, 0), named(1, 1, 1, 0), 1}, {named(1, 1, 1, 1<<32-1), named(1, 1, 1, 1), 1}, {named(1, 1, 1<<32, 0), named(1, 1, 1, 0), 1},
		// Of those that may not be, too.
		{named(0, 5, 7, 9), named(0, 6, 7, 9), -1}, {named(0, 0, 7, 9), named(1, 0, 0, 0), -1}, {named(1, 0, api.Forever+1, 0), named(1, 0, api.Forever, 0), 1}, {named(1, 0, math.MaxUint64, 0), named(1, 0, math.MaxUint64-1, 0), 1},
	} {
		if n, back := name.Order(c.a, c.b), name.Order(c.b, c.a); n != c.want || back != -c.want {
			t.Errorf("Order(%v, %v): %d, and back %d", c.a, c.b, n, back)
		}
	}
	all := names()
	ranks := make([]string, len(all))
	for i, x := range all {
		ranks[i] = rank(x)
	}
	for i, a := range all {
		for j, b := range all {
			if n := name.Order(a, b); n != strings.Compare(ranks[i], ranks[j]) {
				t.Fatalf("Order(%v, %v): %d", a, b, n)
			}
		}
	}
}

// gone is what Sorted goes over.
func gone(l ...api.Name) []api.Name { return slices.Collect(name.Sorted(l...)) }

func TestSorted(t *testing.T) {
	a, b, c, d, e := named(1, 9, 9, 9), named(2, 1, 9, 9), named(2, 2, 1, 9), named(2, 2, 2, 1), named(2, 2, 2, 2)
	for _, k := range []struct{ l, want []api.Name }{
		{nil, nil}, {[]api.Name{}, nil}, {[]api.Name{a}, []api.Name{a}}, {[]api.Name{{}}, []api.Name{{}}}, {[]api.Name{a, b, c, d, e}, []api.Name{a, b, c, d, e}}, {[]api.Name{e, d, c, b, a}, []api.Name{a, b, c, d, e}},
		{[]api.Name{c, a, c, b, a, c}, []api.Name{a, a, b, c, c, c}}, {[]api.Name{e, {}, e}, []api.Name{{}, e, e}},
		// Those that may not be are told, too.
		{[]api.Name{named(1, 1, math.MaxUint64, 0), named(0, 7, 0, 0), a, named(0, 0, 1, 0)}, []api.Name{named(0, 0, 1, 0), named(0, 7, 0, 0), named(1, 1, math.MaxUint64, 0), a}},
	} {
		if got := gone(k.l...); !slices.Equal(got, k.want) {
			t.Errorf("Sorted(%v): %v", k.l, got)
		}
	}
	for range name.Sorted() {
		t.Error("Sorted of no names told one")
	}
}

func TestSortedHangsNotOnTheOrder(t *testing.T) {
	l := append(names(), names()...)
	want := slices.Clone(l)
	slices.SortFunc(want, func(a, b api.Name) int { return strings.Compare(rank(a), rank(b)) })
	chance := rand.New(rand.NewSource(6))
	for range 10 {
		chance.Shuffle(len(l), func(i, j int) { l[i], l[j] = l[j], l[i] })
		if got := gone(l...); !slices.Equal(got, want) {
			t.Fatalf("Sorted of %d: %d, not %d", len(l), len(got), len(want))
		}
	}
}

func TestSortedIsLeftAndGoneOverAgain(t *testing.T) {
	l := []api.Name{named(4, 0, 0, 0), named(2, 0, 0, 0), named(3, 0, 0, 0), named(2, 0, 0, 0)}
	want := []api.Name{l[1], l[3], l[2], l[0]}
	all := name.Sorted(l...)
	for most := 1; most <= len(want); most++ {
		var got []api.Name
		for x := range all {
			got = append(got, x)
			if len(got) == most {
				break
			}
		}
		if !slices.Equal(got, want[:most]) {
			t.Errorf("left behind %d: %v", most, got)
		}
	}
	// One goes over it while another one does.
	for range all {
		if got := slices.Collect(all); !slices.Equal(got, want) {
			t.Errorf("within another: %v", got)
		}
	}
}

func TestSortedIsAsItWasAskedFor(t *testing.T) {
	room := []api.Name{named(3, 0, 0, 0), named(1, 0, 0, 0), named(2, 0, 0, 0), named(9, 9, 9, 9)}
	own := slices.Clone(room)
	all := name.Sorted(room[:3]...)
	got := slices.Collect(all)
	if !slices.Equal(room, own) {
		t.Errorf("Sorted changed its names: %v", room)
	}
	clear(room)
	if again := slices.Collect(all); !slices.Equal(again, got) || !slices.Equal(got, []api.Name{own[1], own[2], own[0]}) {
		t.Errorf("behind a change: %v, ahead of it %v", again, got)
	}
}

// P5.4

func TestTextsAndItemsOfEndpointsGoBack(t *testing.T) {
	texts, items := map[string]api.Endpoint{}, map[string]api.Endpoint{}
	for _, x := range ends() {
		if !may(x) {
			continue
		}
		s, e := name.Text(x)
		y, f := name.Parse(s)
		if e != api.OK || f != api.OK || y != x {
			t.Errorf("Parse of Text(%v): %v %v %v", x, y, e, f)
		}
		i, e := name.Item(x)
		y, f = name.Of(i)
		if e != api.OK || f != api.OK || y != x {
			t.Errorf("Of of Item(%v): %v %v %v", x, y, e, f)
		}
		b, e := cbor.Encode(i)
		if _, is := texts[s]; is || e != api.OK {
			t.Errorf("%v and %v: %q", x, texts[s], s)
		}
		if _, is := items[string(b)]; is {
			t.Errorf("%v and %v: % x", x, items[string(b)], b)
		}
		texts[s], items[string(b)] = x, x
	}
	for s, x := range texts {
		y, _ := name.Parse(s)
		if again, e := name.Text(y); again != s || e != api.OK {
			t.Errorf("Text of Parse(%q), of %v: %q %v", s, x, again, e)
		}
	}
	for b, x := range items {
		i, _ := cbor.Decode([]byte(b))
		y, _ := name.Of(i)
		if again, e := name.Item(y); !cbor.Same(again, i) || e != api.OK {
			t.Errorf("Item of Of(% x), of %v: %s %v", b, x, short(again), e)
		}
	}
}

func TestTextsAndItemsOfNamesGoBack(t *testing.T) {
	texts, items := map[string]api.Name{}, map[string]api.Name{}
	for _, x := range names() {
		if !mayName(x) {
			continue
		}
		s, e := name.NameText(x)
		y, f := name.ParseName(s)
		if e != api.OK || f != api.OK || y != x {
			t.Errorf("ParseName of NameText(%v): %v %v %v", x, y, e, f)
		}
		i, e := name.NameItem(x)
		y, f = name.NameOf(i)
		if e != api.OK || f != api.OK || y != x {
			t.Errorf("NameOf of NameItem(%v): %v %v %v", x, y, e, f)
		}
		b, e := cbor.Encode(i)
		if _, is := texts[s]; is || e != api.OK {
			t.Errorf("%v and %v: %q", x, texts[s], s)
		}
		if _, is := items[string(b)]; is {
			t.Errorf("%v and %v: % x", x, items[string(b)], b)
		}
		texts[s], items[string(b)] = x, x
	}
	for s, x := range texts {
		y, _ := name.ParseName(s)
		if again, e := name.NameText(y); again != s || e != api.OK {
			t.Errorf("NameText of ParseName(%q), of %v: %q %v", s, x, again, e)
		}
	}
	for b, x := range items {
		i, _ := cbor.Decode([]byte(b))
		y, _ := name.NameOf(i)
		if again, e := name.NameItem(y); !cbor.Same(again, i) || e != api.OK {
			t.Errorf("NameItem of NameOf(% x), of %v: %s %v", b, x, short(again), e)
		}
	}
}

func TestWhatIsReadIsToldAgain(t *testing.T) {
	// What reads of texts and items that go astray has just that text and item.
	chance := rand.New(rand.NewSource(7))
	for range 50000 {
		x := named(chance.Uint32()>>chance.Intn(33), chance.Uint32()>>chance.Intn(33), chance.Uint64()>>chance.Intn(65), chance.Uint32()>>chance.Intn(33))
		s := fmt.Sprintf("ipn:%d.%d %d %d", x.Source.Node, x.Source.Service, x.Time, x.Seq)
		b := []byte(s)
		for range chance.Intn(3) {
			b[chance.Intn(len(b))] = "0123456789 .:ipndtoe"[chance.Intn(20)]
		}
		s = string(b)
		if y, e := name.ParseName(s); e == api.OK {
			if again, f := name.NameText(y); again != s || f != api.OK {
				t.Errorf("NameText of ParseName(%q): %q %v", s, again, f)
			}
		} else if y != (api.Name{}) {
			t.Errorf("ParseName(%q): %v %v", s, y, e)
		}
		i := list(list(number(uint64(chance.Intn(4))), list(number(uint64(x.Source.Node)), number(uint64(x.Source.Service)))), number(x.Time), number(uint64(x.Seq)))
		if y, e := name.NameOf(i); e == api.OK {
			if again, f := name.NameItem(y); !cbor.Same(again, i) || f != api.OK {
				t.Errorf("NameItem of NameOf %s: %s %v", short(i), short(again), f)
			}
		} else if y != (api.Name{}) {
			t.Errorf("NameOf %s: %v %v", short(i), y, e)
		}
	}
}
