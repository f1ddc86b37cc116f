package trust_test

import (
	"slices"
	"strings"
	"testing"

	"mailroom/cert"
	"mailroom/every"
	"mailroom/trust"
)

// linkedIs holds Linked against what is wanted, and that against the words.
func linkedIs(t *testing.T, l []cert.Cert, want bool) {
	t.Helper()
	if got := trust.Linked(l); got != want || areLinked(l) != want {
		t.Errorf("Linked(%#v): %v; want %v", l, got, want)
	}
}

// anchoredIs holds Anchored against what is wanted, and that against the words.
func anchoredIs(t *testing.T, l []cert.Cert, now int, anchors []string, want bool) {
	t.Helper()
	if got := trust.Anchored(l, now, anchors); got != want || areAnchored(l, now, anchors) != want {
		t.Errorf("Anchored(%#v, %d, %x): %v; want %v", l, now, anchors, got, want)
	}
}

// readsAs wants that just these certificates are read of a chain.
func readsAs(t *testing.T, chain []string, want []cert.Cert) {
	t.Helper()
	if got := trust.Read(chain); !slices.EqualFunc(got, want, cert.Same) {
		t.Errorf("Read(%x): %#v; want %#v", chain, got, want)
	}
}

// unlike are Signers that are like s, but another one's.
func unlike(s string) []string {
	return []string{"", s[:31], s + "\x00", s[1:], s[:31] + string([]byte{s[31] ^ 1}), string([]byte{s[0] ^ 0x80}) + s[1:],
		digest("another"), key(0), key(1), strings.Repeat("\x00", 32)}
}

// TestLinked: P15.1: none, one, and each number of them.
func TestLinked(t *testing.T) {
	linkedIs(t, nil, true)
	linkedIs(t, []cert.Cert{}, true)
	for n := 1; n <= 9; n++ {
		linkedIs(t, row(n), true)
		linkedIs(t, slices.Concat(row(n), row(1)), false)
		l := row(n)
		slices.Reverse(l)
		linkedIs(t, l, n == 1)
	}
}

// TestLinkedOfOne: P15.1: one alone is linked, whatever it is.
func TestLinkedOfOne(t *testing.T) {
	for _, c := range []cert.Cert{{}, {CA: true}, {Signer: "x"}, {Signer: digest(root), CA: true}, {From: 2, Until: 1}} {
		linkedIs(t, []cert.Cert{c}, true)
	}
}

// TestLinkedSigners: P15.1: a Signer that is another key's, of the first one, a middle one, and the last one (that needs none).
func TestLinkedSigners(t *testing.T) {
	for n := 1; n <= 5; n++ {
		for i := range n {
			for _, s := range unlike(row(n)[i].Signer) {
				linkedIs(t, but(row(n), i, func(c *cert.Cert) { c.Signer = s }), i == n-1)
			}
			for j := range 7 {
				linkedIs(t, but(row(n), i, func(c *cert.Cert) { c.Signer = digest(key(j)) }), i == n-1 || j == i+1)
			}
		}
	}
}

// TestLinkedKeys: P15.1: another key is nobody's signer; the first one's signs nothing.
func TestLinkedKeys(t *testing.T) {
	for n := 1; n <= 5; n++ {
		for i := range n {
			for _, k := range []string{"", "x", key(i) + "\x00", key(i)[1:], digest(key(i)), strings.Repeat("k", 65)} {
				linkedIs(t, but(row(n), i, func(c *cert.Cert) { c.Key = k }), i == 0)
			}
		}
	}
}

// TestLinkedOfLongKeys: P15.1: a Signer is the digest of a key's form, not of the key, nor the key.
func TestLinkedOfLongKeys(t *testing.T) {
	for n := 1; n <= 64; n++ {
		k := strings.Repeat("k", n)
		next := cert.Cert{Key: k, CA: true}
		linkedIs(t, []cert.Cert{{Signer: digest(k)}, next}, true)
		linkedIs(t, []cert.Cert{{Signer: k}, next}, false)
		linkedIs(t, []cert.Cert{{Signer: digest(cert.Spki(k))}, next}, false)
		linkedIs(t, []cert.Cert{{Signer: cert.Spki(k)}, next}, false)
	}
}

// TestLinkedThatMayNotSign: P15.1: one that may not sign, the first one (that need not), a middle one, and the last one.
func TestLinkedThatMayNotSign(t *testing.T) {
	for n := 1; n <= 5; n++ {
		for i := range n {
			linkedIs(t, but(row(n), i, func(c *cert.Cert) { c.CA = false }), i == 0)
			linkedIs(t, but(row(n), i, func(c *cert.Cert) { c.CA = true }), true)
		}
	}
}

// TestLinkedLooksAtNothingElse: P15.1: names and dates are not looked at.
func TestLinkedLooksAtNothingElse(t *testing.T) {
	for i := range 4 {
		linkedIs(t, but(row(4), i, func(c *cert.Cert) { c.Names, c.From, c.Until = []string{"A"}, 2, 1 }), true)
	}
}

// TestLinkedOfAllRows: P15.1: all rows of up to four out of certificates of two keys, against the words.
func TestLinkedOfAllRows(t *testing.T) {
	var some []cert.Cert
	for _, k := range []string{"a", "b"} {
		for _, by := range []string{"a", "b", root} {
			some = append(some, cert.Cert{Key: k, Signer: digest(by)}, cert.Cert{Key: k, Signer: digest(by), CA: true})
		}
	}
	for n := range 5 {
		for l := range every.Row(some, n) {
			linkedIs(t, l, areLinked(l))
		}
	}
}

// TestAnchored: P15.1: of none; by the first one alone, by a middle one, and by the last one.
func TestAnchored(t *testing.T) {
	every := []string{digest(root), digest(key(0)), digest(key(1)), digest(key(2)), digest(key(3)), digest(key(4))}
	for _, anchors := range [][]string{nil, {}, {digest(root)}, every} {
		anchoredIs(t, nil, from, anchors, false)
		anchoredIs(t, []cert.Cert{}, from, anchors, false)
	}
	for n := 1; n <= 5; n++ {
		anchoredIs(t, row(n), from, nil, false)
		anchoredIs(t, row(n), from, []string{}, false)
		anchoredIs(t, row(n), from, every, true)
		anchoredIs(t, row(n), from, []string{digest("another"), digest(key(0))}, false)
		for i := range n {
			anchoredIs(t, row(n), from, []string{row(n)[i].Signer}, true)
			anchoredIs(t, row(n), from, []string{digest("another"), row(n)[i].Signer}, true)
			anchoredIs(t, row(n), from, []string{row(n)[i].Signer, digest("another"), ""}, true)
			anchoredIs(t, row(n), from, unlike(row(n)[i].Signer), false)
		}
	}
}

// TestAnchoredIsNoAnchorsOwn: P15.1: an anchor signs; that one of them has its key does not do.
func TestAnchoredIsNoAnchorsOwn(t *testing.T) {
	anchoredIs(t, row(1), from, []string{digest(key(0))}, false)
	l := but(row(3), 2, func(c *cert.Cert) { c.Signer = digest(key(2)) })
	anchoredIs(t, l, from, []string{digest(key(2))}, true)
	anchoredIs(t, l, from, []string{digest(key(0))}, false)
	anchoredIs(t, l, from, []string{key(0), key(1), key(2), root}, false)
}

// TestAnchoredDates: P15.1: one that is not within its dates, ahead of the anchored one, that one itself, and behind it.
func TestAnchoredDates(t *testing.T) {
	for n := 1; n <= 5; n++ {
		for at := range n {
			anchors := []string{row(n)[at].Signer}
			for i := range n {
				for _, dates := range [][2]int{{from + 1, to}, {0, from - 1}, {from + 1, from - 1}} {
					l := but(row(n), i, func(c *cert.Cert) { c.From, c.Until = dates[0], dates[1] })
					anchoredIs(t, l, from, anchors, i > at)
				}
				l := but(row(n), i, func(c *cert.Cert) { c.From, c.Until = from+5, from+5 })
				anchoredIs(t, l, from+5, anchors, true)
				anchoredIs(t, l, from+4, anchors, i > at)
				anchoredIs(t, l, from+6, anchors, i > at)
			}
		}
	}
}

// TestAnchoredAheadOfWhatIsWrong: P15.1: what is wrong with the links, or with those behind the anchored one, does no harm.
func TestAnchoredAheadOfWhatIsWrong(t *testing.T) {
	for n := 1; n <= 5; n++ {
		for at := range n {
			anchors := []string{row(n)[at].Signer}
			for i := range n {
				anchoredIs(t, but(row(n), i, func(c *cert.Cert) { c.CA = false }), from, anchors, i == 0 || i > at)
				anchoredIs(t, but(row(n), i, func(c *cert.Cert) { c.Key = "another" }), from, anchors, i == 0 || i > at)
				anchoredIs(t, but(row(n), i, func(c *cert.Cert) { c.Signer = digest("another") }), from, anchors, i > at)
				anchoredIs(t, but(row(n), i, func(c *cert.Cert) { c.Names = nil }), from, anchors, true)
				anchoredIs(t, but(row(n), i, func(c *cert.Cert) { *c = cert.Cert{} }), from, anchors, i > at)
			}
		}
	}
}

// TestAnchoredOfAllRows: P15.1: all rows of up to three out of certificates of two keys, three Signers and three pairs of dates, at each time, with some rows of anchors.
func TestAnchoredOfAllRows(t *testing.T) {
	var some []cert.Cert
	for _, k := range []string{"a", "b"} {
		for _, by := range []string{"a", "b", root} {
			for _, dates := range [][2]int{{1, 1}, {1, 2}, {2, 2}} {
				c := cert.Cert{Key: k, Signer: digest(by), From: dates[0], Until: dates[1]}
				some = append(some, c)
				c.CA = true
				some = append(some, c)
			}
		}
	}
	lists := [][]string{nil, {digest(root)}, {digest("a")}, {digest(root), digest("b")}}
	for n := range 4 {
		for l := range every.Row(some, n) {
			for _, anchors := range lists[min(n, 1):] {
				for now := 1; now <= 2; now++ {
					anchoredIs(t, l, now, anchors, areAnchored(l, now, anchors))
				}
			}
		}
	}
}

// TestAnchoredOfLongRows: P15.1: all rows of four and five out of certificates of one key, that signs itself, or is signed by root.
func TestAnchoredOfLongRows(t *testing.T) {
	self, by := digest("a"), digest(root)
	some := []cert.Cert{
		{Key: "a", Signer: self, Until: 1},
		{Key: "a", Signer: self, Until: 1, CA: true},
		{Key: "a", Signer: by, Until: 1, CA: true},
		{Key: "a", Signer: by, Until: 1},
		{Key: "a", Signer: self, CA: true},
	}
	for n := 4; n <= 5; n++ {
		for l := range every.Row(some, n) {
			for now := range 2 {
				anchoredIs(t, l, now, []string{by}, areAnchored(l, now, []string{by}))
			}
		}
	}
}

// TestRead: P15.1: no chain, each number up to MaxChain, and more.
func TestRead(t *testing.T) {
	readsAs(t, nil, nil)
	readsAs(t, []string{}, nil)
	for n := 1; n <= 9; n++ {
		l := row(n)
		readsAs(t, bytesOf(t, l...), l[:min(n, maxChain)])
	}
	c := named("*.example.com", "mx.example.org")
	readsAs(t, bytesOf(t, c, c, c), []cert.Cert{c, c, c})
}

// none are bytes that are no certificate's.
func none(t *testing.T) []string {
	t.Helper()
	s := bytesOf(t, row(1)[0])[0]
	return []string{"", "\x30", "\x30\x00", s[:len(s)-1], s[1:], s + "\x00", s + s, strings.Repeat("\x00", len(s)), strings.Repeat("a", maxCert), strings.Repeat("a", maxCert+1), strings.Replace(s, "mx", "Mx", 1)}
}

// TestReadOfNone: P15.1: bytes that are none, as the first one, a middle one, and the last one; what is behind them is not read.
func TestReadOfNone(t *testing.T) {
	for _, s := range none(t) {
		for n := 1; n <= 6; n++ {
			for i := range n {
				l := row(n)
				chain := bytesOf(t, l...)
				chain[i] = s
				readsAs(t, chain, l[:min(i, maxChain)])
				readsAs(t, append(chain, chain...), l[:min(i, maxChain)])
			}
		}
	}
}

// TestReadOfTheLongest: P15.1: one of as many bytes as may be is read.
func TestReadOfTheLongest(t *testing.T) {
	for n := 150; n < 190; n++ {
		c := named("*."+strings.Repeat("a.", 115)+"b", strings.Repeat("a.", n/2)+strings.Repeat("b", 1+n%2))
		s, e := cert.Encode(c)
		if (e == 0) != (len(s) > 0 && len(s) <= maxCert) {
			t.Errorf("%d bytes: %v", len(s), e)
		}
		if e == 0 {
			readsAs(t, []string{s, s}, []cert.Cert{c, c})
		}
	}
}

// TestReadLooksAtNothingElse: P15.1: what is not linked, or not within whatever dates, is read.
func TestReadLooksAtNothingElse(t *testing.T) {
	l := []cert.Cert{dated(2, 1), row(3)[2], named(), row(3)[0]}
	readsAs(t, bytesOf(t, l...), l)
}
