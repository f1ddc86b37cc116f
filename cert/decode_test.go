package cert_test

import (
	"slices"
	"strings"
	"testing"

	"mailroom/api"
	"mailroom/cert"
)

// node is a thing that is put together by hand: of a tag, and either of a value, or of others.
type node struct {
	tag  byte
	s    string
	kids []node
	long func(n int) string // how its length is written, if it is not as chapter 13 says
}

// bytes are a thing's.
func (x node) bytes() string {
	s := x.s
	for _, kid := range x.kids {
		s += kid.bytes()
	}
	if x.long != nil {
		return string([]byte{x.tag}) + x.long(len(s)) + s
	}
	return thing(x.tag, s)
}

// tree is a certificate as things.
func tree(c cert.Cert) node {
	var names []node
	for _, n := range c.Names {
		names = append(names, node{tag: 0x82, s: n})
	}
	return node{tag: 0x30, kids: []node{
		{tag: 0x30, kids: []node{{tag: 0x04, s: c.Key}}},
		{tag: 0x04, s: c.Signer},
		{tag: 0x30, kids: names},
		{tag: 0x02, s: number(c.From)},
		{tag: 0x02, s: number(c.Until)},
		{tag: 0x01, s: truth(c.CA)},
	}}
}

// at is that one of a thing's others to which a way of places leads.
func (x node) at(way []int) node {
	for _, i := range way {
		x = x.kids[i]
	}
	return x
}

// but is a thing but for that one of its others, which is y.
func (x node) but(way []int, y node) node {
	if len(way) == 0 {
		return y
	}
	x.kids = slices.Clone(x.kids)
	x.kids[way[0]] = x.kids[way[0]].but(way[1:], y)
	return x
}

// ways are the ways to a thing, and to all others within it.
func (x node) ways() [][]int {
	list := [][]int{nil}
	for i, kid := range x.kids {
		for _, way := range kid.ways() {
			list = append(list, append([]int{i}, way...))
		}
	}
	return list
}

// holders are the ways to those that have others.
func (x node) holders() [][]int {
	return slices.DeleteFunc(x.ways(), func(way []int) bool { return len(x.at(way).kids) == 0 })
}

// areNames tells whether a way leads to a certificate's names.
func areNames(way []int) bool {
	return slices.Equal(way, []int{2})
}

// some are certificates of many kinds, no two the same, with bytes of few and of many lengths.
func some() []cert.Cert {
	list := []cert.Cert{one(), named(), named("a"), named("*.a.b", "a.b"), named("a.b", "*.a.b"), named("a.b", "a.b"), named("c", "b", "a")}
	for _, key := range []string{"\x00", "\x04\x01k", signer, letters(64), strings.Repeat("\xff", 64)} {
		for _, until := range []int{0, 127, 128, 1 << 31, maxClock} {
			list = append(list, cert.Cert{Key: key, Signer: signer, Names: []string{nameOf(len(key))}, From: maxClock - until, Until: until, CA: until%2 == 0})
		}
	}
	for _, n := range []int{30, 60, 100, 130, 253} {
		list = append(list, long("*.a.example", n, 20))
	}
	return append(list, named(slices.Repeat([]string{"a"}, maxItems)...))
}

// cut tells a thing's value, and what is behind it, whatever its tag is, and in whatever form its length; of what is none: nothing.
func cut(s string) (value, rest string) {
	begin, n := 2, 0
	switch {
	case len(s) < 2:
		return "", ""
	case s[1] < 0x80:
		n = int(s[1])
	case s[1] == 0x81 && len(s) > 2:
		begin, n = 3, int(s[2])
	case s[1] == 0x82 && len(s) > 3:
		begin, n = 4, 256*int(s[2])+int(s[3])
	}
	if begin+n > len(s) {
		return "", ""
	}
	return s[begin : begin+n], s[begin+n:]
}

// signed is the number of up to eight bytes.
func signed(s string) int {
	n := 0
	for i := range len(s) {
		if i == 0 && s[0] >= 0x80 {
			n = -1
		}
		n = n<<8 | int(s[i])
	}
	return n
}

// plainDecode reckons what certificate has these bytes: it is read in haste, and then is the one just if its bytes are these.
func plainDecode(s string) (cert.Cert, bool) {
	var c cert.Cert
	row, _ := cut(s)
	form, row := cut(row)
	c.Key, _ = cut(form)
	c.Signer, row = cut(row)
	names, row := cut(row)
	for names != "" {
		var n string
		n, names = cut(names)
		c.Names = append(c.Names, n)
	}
	from, row := cut(row)
	until, row := cut(row)
	ca, _ := cut(row)
	c.From, c.Until, c.CA = signed(from), signed(until), ca == truth(true)
	return c, len(s) <= maxCert && may(c) && len(c.Names) <= maxItems && bytesOf(c) == s
}

// holds holds what is read of bytes against the reckoning, and its bytes against these.
func holds(t *testing.T, s string) {
	t.Helper()
	want, is := plainDecode(s)
	if !is {
		decodesNone(t, s)
		return
	}
	c, e := cert.Decode(s)
	if !same(c, want) || e != api.OK {
		t.Fatalf("Decode(%x): %+v, %v; want %+v", s, c, e, want)
	}
	if back, e := cert.Encode(c); back != s || e != api.OK || !cert.May(c) {
		t.Fatalf("Encode(%+v): %x, %v; want %x", c, back, e, s)
	}
}

// TestTrees: the certificates' things, put together, are their bytes.
func TestTrees(t *testing.T) {
	for _, c := range some() {
		if s := tree(c).bytes(); s != bytesOf(c) {
			t.Errorf("%x; want %x", s, bytesOf(c))
		}
		encodes(t, c)
	}
}

// TestDecodeOfShortTexts: all texts of none to two bytes, and things of these that are to hold others.
func TestDecodeOfShortTexts(t *testing.T) {
	decodesNone(t, "")
	for i := range 256 {
		decodesNone(t, string([]byte{byte(i)}))
		for j := range 256 {
			s := string([]byte{byte(i), byte(j)})
			decodesNone(t, s)
			decodesNone(t, thing(0x30, s))
			decodesNone(t, thing(0x30, thing(0x30, s)))
		}
	}
}

// TestCut: bytes that are cut at each of them, at the end, and at the beginning, and with some behind, or ahead.
func TestCut(t *testing.T) {
	for _, c := range some() {
		s := bytesOf(c)
		for i := range len(s) {
			decodesNone(t, s[:i])
			if i > 0 {
				decodesNone(t, s[i:])
			}
		}
		for i := range 256 {
			b := string([]byte{byte(i)})
			decodesNone(t, s+b)
			decodesNone(t, b+s)
		}
		decodesNone(t, s+s)
		decodesNone(t, thing(0x30, s))
	}
}

// TestOneByteElse: of each certificate each byte is each other one, or is missing, or has one more ahead of it.
func TestOneByteElse(t *testing.T) {
	for _, c := range []cert.Cert{one(), named("*.a.b", "a.b"), with(func(c *cert.Cert) { c.From, c.Until, c.CA = 128, maxClock, true }), long("a.b", 120, 5)} {
		s := bytesOf(c)
		for i := range len(s) {
			holds(t, s[:i]+s[i+1:])
			for j := range 256 {
				b := string([]byte{byte(j)})
				holds(t, s[:i]+b+s[i+1:])
				holds(t, s[:i]+b+s[i:])
			}
		}
	}
}

// TestThingsLeftOut: each of those that a thing has is left out, or stands twice, or is elsewhere; of names alone such a row may be.
func TestThingsLeftOut(t *testing.T) {
	for _, c := range some() {
		x := tree(c)
		for _, way := range x.holders() {
			y := x.at(way)
			for i := range y.kids {
				for _, kids := range rows(y.kids, i) {
					changed(t, x, way, kids)
				}
			}
		}
	}
}

// rows are those without one of some things, with it twice, with it first, and last, and with a thing of nothing ahead of it.
func rows(kids []node, i int) [][]node {
	kid := kids[i : i+1]
	ahead, behind := kids[:i], kids[i+1:]
	return [][]node{
		slices.Concat(ahead, behind),
		slices.Concat(ahead, kid, kid, behind),
		slices.Concat(kid, ahead, behind),
		slices.Concat(ahead, behind, kid),
		slices.Concat(kids, kid),
		slices.Concat(ahead, []node{{tag: kids[i].tag}}, kid, behind),
	}
}

// changed holds a certificate's bytes, one thing of which has others, against the reckoning; just names may still be some.
func changed(t *testing.T, x node, way []int, kids []node) {
	t.Helper()
	s := x.but(way, node{tag: x.at(way).tag, kids: kids}).bytes()
	holds(t, s)
	if _, e := cert.Decode(s); e == api.OK && s != x.bytes() && !areNames(way) {
		t.Errorf("%x is a certificate's, with a change at %v", s, way)
	}
}

// TestOtherTags: each thing is of each other tag.
func TestOtherTags(t *testing.T) {
	for _, c := range some()[:12] {
		x := tree(c)
		for _, way := range x.ways() {
			y := x.at(way)
			own := y.tag
			for tag := range 256 {
				if y.tag = byte(tag); y.tag != own {
					decodesNone(t, x.but(way, y).bytes())
				}
			}
		}
	}
}

// TestOtherLengths: each thing's length is in a longer form, in none, or in one of a length that is not its own.
func TestOtherLengths(t *testing.T) {
	forms := []func(n int) string{
		func(n int) string { return string([]byte{0x81, byte(n)}) },
		func(n int) string { return string([]byte{0x82, byte(n >> 8), byte(n)}) },
		func(n int) string { return string([]byte{0x83, 0, byte(n >> 8), byte(n)}) },
		func(n int) string { return string([]byte{0x84, 0, 0, byte(n >> 8), byte(n)}) },
		func(n int) string { return "\x80" },
		func(n int) string { return "\xff" },
		func(n int) string { return "" },
		func(n int) string { return string([]byte{byte(n)}) },
		func(n int) string { return string([]byte{byte(n + 1)}) },
		func(n int) string { return string([]byte{byte(n - 1)}) },
	}
	for _, c := range some() {
		x := tree(c)
		for _, way := range x.ways() {
			y := x.at(way)
			for _, form := range forms {
				y.long = form
				holds(t, x.but(way, y).bytes())
			}
		}
	}
}

// TestOtherValues: numbers, and truth values, of another form, or of none.
func TestOtherValues(t *testing.T) {
	values := []string{"", "\x00\x00", "\x00\x01", "\x00\x7f", "\xff\xff", "\xff\x80", "\xff", "\x80", "\x00\x80\x00\x00\x00\x00\x00\x00\x00", strings.Repeat("\x00", 8), strings.Repeat("\x00", 9), strings.Repeat("\x7f", 8), strings.Repeat("\x7f", 9), "1", "a.b"}
	for i := range 256 {
		values = append(values, string([]byte{byte(i)}), string([]byte{0, byte(i)}), string([]byte{0xff, byte(i)}), string([]byte{byte(i), 0}))
	}
	for _, c := range []cert.Cert{one(), long("a.b", 60, 5)} {
		x := tree(c)
		for _, way := range [][]int{{0, 0}, {1}, {2, 0}, {3}, {4}, {5}} {
			for _, value := range values {
				holds(t, x.but(way, node{tag: x.at(way).tag, s: value}).bytes())
			}
		}
	}
}

// numberIs holds whether a value at From's place, and at Until's, is a number's that may be there.
func numberIs(t *testing.T, value string, want int, is bool) {
	t.Helper()
	for _, place := range []int{3, 4} {
		s := tree(one()).but([]int{place}, node{tag: 0x02, s: value}).bytes()
		if !is {
			decodesNone(t, s)
			continue
		}
		c, e := cert.Decode(s)
		if got := []int{c.From, c.Until}[place-3]; got != want || e != api.OK {
			t.Errorf("%x at %d: %d, %v; want %d", value, place, got, e, want)
		}
	}
}

// TestNumbers: those of other forms, and those at the clock's ends.
func TestNumbers(t *testing.T) {
	for value, want := range map[string]int{"\x00": 0, "\x7f": 127, "\x00\x80": 128, "\x01\x00": 256, "\x00\xff\xff\xff\xff\xff": maxClock - 1, "\x01\x00\x00\x00\x00\x00": maxClock} {
		numberIs(t, value, want, true)
	}
	for _, value := range []string{"", "\x00\x00", "\x00\x7f", "\xff", "\x80", "\xff\x7f", "\xff\x00\x00\x00\x00\x00", "\x01\x00\x00\x00\x00\x01", "\x00\x01\x00\x00\x00\x00\x00", "\x7f\xff\xff\xff\xff\xff\xff\xff", "\x80\x00\x00\x00\x00\x00\x00\x00", "\x00\x80\x00\x00\x00\x00\x00\x00\x00", "\x01\x00\x00\x00\x00\x00\x00\x00\x00\x01"} {
		numberIs(t, value, 0, false)
	}
}

// TestTruthValues: just FF and 00 are some.
func TestTruthValues(t *testing.T) {
	has := func(value string) string {
		return tree(one()).but([]int{5}, node{tag: 0x01, s: value}).bytes()
	}
	for i := range 256 {
		s := has(string([]byte{byte(i)}))
		if i > 0 && i < 255 {
			decodesNone(t, s)
			continue
		}
		if c, e := cert.Decode(s); c.CA != (i == 255) || e != api.OK {
			t.Errorf("%02x: %v, %v", i, c.CA, e)
		}
	}
	for _, value := range []string{"", "\x00\x00", "\xff\xff", "\x00\xff"} {
		decodesNone(t, has(value))
	}
}

// TestMoreWithin: behind the things that a thing has something stands that is none of them, or not whole.
func TestMoreWithin(t *testing.T) {
	x := tree(one())
	for _, way := range [][]int{nil, {0}, {2}} {
		for _, more := range []string{"\x00", "\x04", "\x04\x00", "\x04\x01a", "\x05\x00", "\x1f\x00", "\x30\x00", "\x82", "\x82\x00", "\x82\x02a", "\x82\x81\x01a", bytesOf(one())} {
			value, _ := cut(x.at(way).bytes())
			decodesNone(t, x.but(way, node{tag: x.at(way).tag, s: value + more}).bytes())
		}
	}
}
