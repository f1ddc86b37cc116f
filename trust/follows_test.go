package trust_test

import (
	"fmt"
	"math"
	"slices"
	"strings"
	"testing"
	"unsafe"

	"mailroom/cert"
	"mailroom/every"
	"mailroom/trust"
)

// right tells whether a chain is Right for the host.
func right(chain []string, now int, anchors []string) bool {
	return trust.Judge(chain, host, now, anchors) == trust.Right
}

// TestMoreAnchors: P15.4: with more anchors, ahead and behind, what was Right is so.
func TestMoreAnchors(t *testing.T) {
	many := 0
	more := []string{"", digest("a"), digest("x"), digest("y")}
	for n := range 3 {
		for list := range every.Row(links(t), n) {
			chain, _ := parted(list)
			if !right(chain, 1, roots()) {
				continue
			}
			many++
			for i := range len(more) + 1 {
				for j := range i {
					judges(t, chain, host, 1, slices.Concat(more[j:i], roots()), trust.Right)
					judges(t, chain, host, 1, slices.Concat(roots(), more[j:i]), trust.Right)
					judges(t, chain, host, 1, slices.Concat(more[j:i], roots(), more[:j], roots()), trust.Right)
				}
			}
		}
	}
	if many == 0 {
		t.Error("no chain was Right")
	}
}

// TestMoreBehind: P15.4: with more certificates behind, or bytes that are none, up to MaxChain together and beyond it, what was Right is so.
func TestMoreBehind(t *testing.T) {
	some := links(t)
	var more [][]string
	for n := 1; n <= 2; n++ {
		for list := range every.Row(some, n) {
			chain, _ := parted(list)
			more = append(more, chain)
		}
	}
	more = append(more, bytesOf(t, row(3)...), bytesOf(t, row(9)...), slices.Repeat([]string{some[2].s}, 3))
	many := 0
	for n := range 3 {
		for list := range every.Row(some, n) {
			chain, _ := parted(list)
			if !right(chain, 1, roots()) {
				continue
			}
			many++
			for _, behind := range more {
				judges(t, slices.Concat(chain, behind), host, 1, roots(), trust.Right)
			}
		}
	}
	if many == 0 {
		t.Error("no chain was Right")
	}
}

// TestMoreBehindLongOnes: P15.4, of rows of up to MaxChain.
func TestMoreBehindLongOnes(t *testing.T) {
	bad := []cert.Cert{dated(0, 1), row(2)[1], named(), but(row(1), 0, func(c *cert.Cert) { c.Signer = digest("x") })[0]}
	for n := 1; n < maxChain; n++ {
		for behind := range every.Row(bad, maxChain-n) {
			for m := range behind {
				judges(t, bytesOf(t, append(row(n), behind[:m+1]...)...), host, from, roots(), trust.Right)
			}
		}
	}
}

// spoils are changes of a certificate, by each of which a link that rests on it breaks; at the first one just some do.
func spoils() []struct {
	first  bool
	change func(c *cert.Cert)
} {
	type spoil = struct {
		first  bool
		change func(c *cert.Cert)
	}
	var list []spoil
	add := func(first bool, change func(c *cert.Cert)) {
		list = append(list, spoil{first, change})
	}
	for bit := range 32 * 8 {
		add(true, func(c *cert.Cert) {
			b := []byte(c.Signer)
			b[bit/8] ^= 1 << (bit % 8)
			c.Signer = string(b)
		})
	}
	for _, k := range []string{"x", key(0), key(1), key(2), key(3)} {
		add(true, func(c *cert.Cert) {
			other := digest(k)
			if c.Signer == other {
				other = digest("y")
			}
			c.Signer = other
		})
	}
	add(true, func(c *cert.Cert) { c.From = from + 51 })
	add(true, func(c *cert.Cert) { c.Until = from + 49 })
	add(true, func(c *cert.Cert) { c.From, c.Until = to, from })
	add(false, func(c *cert.Cert) { c.CA = false })
	add(false, func(c *cert.Cert) { c.Key += "x" })
	add(false, func(c *cert.Cert) { c.Key = root })
	return list
}

// TestEachLink: P15.5: each thing that a needed link rests on, changed alone, at each place of rows that are anchored by their last one alone.
func TestEachLink(t *testing.T) {
	const now = from + 50
	for n := 1; n <= maxChain; n++ {
		anchoredIs(t, row(n), now, roots(), true)
		for i := range n {
			for _, x := range spoils() {
				l := but(row(n), i, x.change)
				want := i == 0 && !x.first
				anchoredIs(t, l, now, roots(), want)
				if got := right(bytesOf(t, l...), now, roots()); got != want {
					t.Errorf("%#v at %d is Right: %v", l, now, got)
				}
			}
		}
	}
}

// TestEachLinkInAllRows: P15.5: of all rows of three that are anchored by the last one alone.
func TestEachLinkInAllRows(t *testing.T) {
	var some []cert.Cert
	for _, k := range []string{"a", "b", "c"} {
		for _, by := range []string{"a", "b", "c", root} {
			some = append(some, cert.Cert{Key: k, Signer: digest(by), Until: 9, CA: true}, cert.Cert{Key: k, Signer: digest(by), Until: 9})
		}
	}
	many := 0
	for l := range every.Row(some, 3) {
		if !trust.Anchored(l, 5, roots()) || trust.Anchored(l[:2], 5, roots()) {
			continue
		}
		many++
		for i := range l {
			anchoredIs(t, but(l, i, func(c *cert.Cert) { c.Signer = digest("x") }), 5, roots(), false)
			anchoredIs(t, but(l, i, func(c *cert.Cert) { c.CA = false }), 5, roots(), i == 0)
			anchoredIs(t, but(l, i, func(c *cert.Cert) { c.From = 6 }), 5, roots(), false)
			anchoredIs(t, but(l, i, func(c *cert.Cert) { c.Until = 4 }), 5, roots(), false)
		}
	}
	if many == 0 {
		t.Error("no row was anchored by its last one alone")
	}
}

// between wants that the times at which a chain is Right have none between them at which it is not, and tells how many they are.
func between(t *testing.T, chain []string, anchors []string) int {
	t.Helper()
	first, last, many := 0, 0, 0
	for now := -1; now <= 5; now++ {
		if right(chain, now, anchors) {
			if many == 0 {
				first = now
			}
			last = now
			many++
		}
	}
	if many > 0 && last-first+1 != many {
		t.Errorf("%x with %x is Right at %d times from %d to %d", chain, anchors, many, first, last)
	}
	return many
}

// TestBetween: P15.6: certificates of all dates of 0 to 4, anchored by the first one, the last one, or either.
func TestBetween(t *testing.T) {
	seen := map[int]bool{}
	var dates [][2]int
	for begin := range 5 {
		for end := range 5 {
			dates = append(dates, [2]int{begin, end})
		}
	}
	for n := 1; n <= 2; n++ {
		for list := range every.Row(dates, n) {
			l := row(n)
			for i, d := range list {
				l[i].From, l[i].Until = d[0], d[1]
			}
			chain := bytesOf(t, l...)
			for _, anchors := range [][]string{{l[0].Signer}, roots(), {l[0].Signer, digest(root)}} {
				seen[between(t, chain, anchors)] = true
			}
		}
	}
	for many := range 6 {
		if !seen[many] {
			t.Errorf("no chain was Right at %d times", many)
		}
	}
}

// TestBetweenOfThree: P15.6: of three certificates of some dates, with each row of anchors.
func TestBetweenOfThree(t *testing.T) {
	dates := [][2]int{{0, 4}, {0, 2}, {2, 4}, {1, 3}, {2, 2}, {3, 1}}
	for list := range every.Row(dates, 3) {
		l := row(3)
		begin, end := 0, 4
		for i, d := range list {
			l[i].From, l[i].Until = d[0], d[1]
			begin, end = max(begin, d[0]), min(end, d[1])
		}
		chain := bytesOf(t, l...)
		for which := range 8 {
			var anchors []string
			for i := range l {
				if which>>i&1 == 1 {
					anchors = append(anchors, l[i].Signer)
				}
			}
			between(t, chain, anchors)
		}
		// By the last one alone: at the times that are all theirs.
		if many := between(t, chain, roots()); many != max(0, end-begin+1) {
			t.Errorf("%v: Right at %d times; want %d to %d", list, many, begin, end)
		}
	}
}

// TestGreatTimes: P15.6: from the first time of the clock to the last one, and not beyond.
func TestGreatTimes(t *testing.T) {
	chain := bytesOf(t, dated(0, maxClock))
	for _, now := range []int{0, 1, 1 << 31, 1 << 32, maxClock - 1, maxClock} {
		judges(t, chain, host, now, roots(), trust.Right)
	}
	for _, now := range []int{math.MinInt, -1, maxClock + 1, math.MaxInt} {
		judges(t, chain, host, now, roots(), trust.Expired)
	}
}

// TestOneStar: P15.7: a star is of hosts of one label more alone, of whatever labels, and never of one with one label behind it.
func TestOneStar(t *testing.T) {
	labels := []string{"a", "b-c", "0", "xn--p1ai", "com"}
	for n := 1; n <= 4; n++ {
		for list := range every.Row(labels, n) {
			behind := strings.Join(list, ".")
			if !isName(behind) {
				continue
			}
			for _, first := range labels {
				hostIs(t, named("*."+behind), first+"."+behind, n >= 2)
				hostIs(t, named("*."+behind), first+".a."+behind, false)
				hostIs(t, named(behind), first+"."+behind, false)
			}
			hostIs(t, named("*."+behind), behind, false)
			hostIs(t, named(behind), behind, true)
		}
	}
}

// whole is a certificate with something in each field, and one that may not be.
func whole() []cert.Cert {
	return []cert.Cert{
		{Key: key(0), Signer: digest(key(1)), Names: []string{host, "*.example.org", "x"}, From: from, Until: to, CA: true},
		{Key: key(1), Signer: digest(root), Names: []string{}, From: from, Until: to, CA: true},
		{Key: "", Signer: "x", Names: []string{"A", "", "*.", "*", "*.*.a"}, From: -5, Until: math.MaxInt},
		{},
	}
}

// TestWhatIsHandedInStays: R1: also what stands behind what is handed in, in one piece of memory with it.
func TestWhatIsHandedInStays(t *testing.T) {
	l := whole()
	chain := append(bytesOf(t, l[:2]...), "", "x", "y")
	anchors := []string{digest("x"), digest(root), ""}
	was := fmt.Sprintf("%#v %#v %#v", l, chain, anchors)
	for n := range l {
		trust.Linked(l[:n])
		trust.Anchored(l[:n], from, anchors[:2])
		trust.Host(l[n], host)
		trust.Dates(l[n], from)
		trust.Read(chain[:n])
		trust.Judge(chain[:n], host, from, anchors[:1])
		trust.Judge(chain[:n], host, from, anchors[:2])
	}
	if now := fmt.Sprintf("%#v %#v %#v", l, chain, anchors); now != was {
		t.Errorf("%s is %s", was, now)
	}
}

// TestWhatIsBehindIsNotLookedAt: what stands behind a list in one piece of memory with it is not of it.
func TestWhatIsBehindIsNotLookedAt(t *testing.T) {
	l := append(row(4), row(1)...)
	linkedIs(t, l[:4], true)
	linkedIs(t, l, false)
	chain := bytesOf(t, row(4)...)
	both := []string{digest("x"), digest(root)}
	for n := range 4 {
		anchoredIs(t, row(4)[:n], from, roots(), false)
		readsAs(t, chain[:n], row(4)[:n])
		judges(t, chain[:n], host, from, roots(), trust.Untrusted)
	}
	anchoredIs(t, row(4), from, both[:1], false)
	judges(t, chain, host, from, both[:1], trust.Untrusted)
	judges(t, chain, host, from, both, trust.Right)
}

// shares tells whether two texts stand in one piece of memory.
func shares(a, b string) bool {
	if a == "" || b == "" {
		return false
	}
	x, y := uintptr(unsafe.Pointer(unsafe.StringData(a))), uintptr(unsafe.Pointer(unsafe.StringData(b)))
	return x < y+uintptr(len(b)) && y < x+uintptr(len(a))
}

// texts are all of some certificates'.
func texts(l []cert.Cert) []string {
	var list []string
	for _, c := range l {
		list = append(append(list, c.Key, c.Signer), c.Names...)
	}
	return list
}

// TestNothingShared: R1: what is read is new memory, each time, and each of them its own.
func TestNothingShared(t *testing.T) {
	c := whole()[0]
	chain := bytesOf(t, c, c, row(2)[1])
	chain[1] = chain[0]
	one, other := trust.Read(chain), trust.Read(chain)
	for i := range one {
		for _, a := range texts(one[i : i+1]) {
			for _, b := range slices.Concat(chain, texts(other), texts(one[:i]), texts(one[i+1:])) {
				if shares(a, b) {
					t.Errorf("%x shares memory with %x", a, b)
				}
			}
		}
	}
	for i := range one {
		for j := range one[i].Names {
			one[i].Names[j] = "other"
		}
		one[i].Names = append(one[i].Names, "more")
	}
	clear(one)
	want := []cert.Cert{c, c, row(2)[1]}
	if !slices.EqualFunc(other, want, cert.Same) {
		t.Errorf("two answers have one list: %#v", other)
	}
	readsAs(t, chain, want)
}

// TestGreatOnes: R1: each call ends, however much it is handed.
func TestGreatOnes(t *testing.T) {
	self := cert.Cert{Key: "k", Signer: digest("k"), Names: slices.Repeat([]string{"*.example.com", "a"}, 1<<10), Until: 1, CA: true}
	l := slices.Repeat([]cert.Cert{self}, 1<<16)
	if !trust.Linked(l) || trust.Linked(append(l, named())) {
		t.Error("a great row is not linked, or is so with another one behind")
	}
	last := append(l, cert.Cert{Key: "k", Signer: digest(root), Until: 1, CA: true})
	if !trust.Anchored(last, 1, roots()) || trust.Anchored(last, 2, append(roots(), digest("k"))) || trust.Anchored(l, 1, roots()) {
		t.Error("a great row is not anchored by its last one, or is so by another one, or behind its dates")
	}
	if !trust.Host(self, host) || trust.Host(self, strings.Repeat("a.", 1<<20)) || trust.Host(named(strings.Repeat("a.", 1<<20)+"b"), host) {
		t.Error("a great name")
	}
	chain := slices.Repeat(bytesOf(t, row(1)...), 1<<20)
	readsAs(t, chain, slices.Repeat(row(1), maxChain))
	judges(t, chain, host, from, slices.Insert(slices.Repeat([]string{""}, 1<<20), 1<<20, digest(root)), trust.Right)
	judges(t, []string{strings.Repeat("\x30", 1<<24)}, host, from, roots(), trust.Untrusted)
}
