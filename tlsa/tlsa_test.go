package tlsa_test

import (
	"crypto/sha256"
	"slices"
	"strings"
	"testing"

	"mailroom/api"
	"mailroom/cert"
	"mailroom/every"
	"mailroom/tlsa"
)

// The document's limits, as numbers.
const (
	maxChain = 4
	maxCert  = 512
	maxTLSA  = 4
	maxClock = 1 << 40
)

// The host whose the rows below are, and the dates within which they are.
const (
	host = "mx.example.com"
	from = 100
	to   = 200
)

// root is a key that stands in no certificate.
const root = "root"

// sum is a digest.
func sum(s string) string {
	d := sha256.Sum256([]byte(s))
	return string(d[:])
}

// form is a key's, by the words of chapter 14, put together by hand.
func form(key string) string {
	n := byte(len(key))
	return string([]byte{0x30, n + 2, 0x04, n}) + key
}

// record is one of these numbers, and that Data.
func record(usage, selector, match uint8, data string) api.TLSA {
	return api.TLSA{Usage: usage, Selector: selector, Match: match, Data: data}
}

// isUsable tells by the chapter's words whether a record is usable.
func isUsable(r api.TLSA) bool {
	if r.Usage != 2 && r.Usage != 3 || r.Selector != 0 && r.Selector != 1 || r.Match != 0 && r.Match != 1 {
		return false
	}
	n := len(r.Data)
	return n >= 1 && n <= 512 && (r.Match == 0 || n == 32)
}

// piece is one of a chain: bytes, and the certificate whose they are, if they are one's.
type piece struct {
	s  string
	c  cert.Cert
	is bool
}

// isOf tells by the chapter's words whether a piece's bytes are a record's.
func isOf(r api.TLSA, p piece) bool {
	if !isUsable(r) || !p.is {
		return false
	}
	taken := p.s
	if r.Selector == 1 {
		taken = form(p.c.Key)
	}
	if r.Match == 1 {
		taken = sum(taken)
	}
	return r.Data == taken
}

// isMatched tells by the chapter's words whether a chain of pieces is matched by a record: of names without stars.
func isMatched(r api.TLSA, chain []piece, whose string, now int) bool {
	if r.Usage == 3 {
		return len(chain) > 0 && isOf(r, chain[0])
	}
	if r.Usage != 2 {
		return false
	}
	for i := 1; i < len(chain) && i < maxChain; i++ {
		if isOf(r, chain[i]) && vouches(chain[:i+1], whose, now) {
			return true
		}
	}
	return false
}

// vouches tells whether the first of these is the host's, and nothing is wrong up to the last one.
func vouches(chain []piece, whose string, now int) bool {
	for i, p := range chain {
		if !p.is || now < p.c.From || now > p.c.Until {
			return false
		}
		if i > 0 && (chain[i-1].c.Signer != sum(form(p.c.Key)) || !p.c.CA) {
			return false
		}
	}
	return slices.Contains(chain[0].c.Names, whose)
}

// isMatchedByAny tells by the chapter's words whether a chain is matched by one of the records that count.
func isMatchedByAny(l []api.TLSA, chain []piece, whose string, now int) bool {
	for i, r := range l {
		if i < maxTLSA && isUsable(r) && isMatched(r, chain, whose, now) {
			return true
		}
	}
	return false
}

// certificate is the piece of a certificate.
func certificate(t *testing.T, c cert.Cert) piece {
	t.Helper()
	s, e := cert.Encode(c)
	if e != 0 {
		t.Fatalf("Encode(%#v): %v", c, e)
	}
	return piece{s, c, true}
}

// certificates are pieces of certificates.
func certificates(t *testing.T, l ...cert.Cert) []piece {
	t.Helper()
	var chain []piece
	for _, c := range l {
		chain = append(chain, certificate(t, c))
	}
	return chain
}

// others are bytes that are no certificate's.
func others(t *testing.T) []piece {
	t.Helper()
	s := certificate(t, row(1)[0]).s
	var l []piece
	for _, b := range []string{"", "\x30", "\x30\x00", form("k"), s[:len(s)-1], s[1:], s + "\x00", s + s, strings.Repeat("\x00", len(s)), strings.Repeat("a", maxCert), strings.Repeat("a", maxCert+1), strings.Replace(s, "mx", "Mx", 1)} {
		l = append(l, piece{s: b})
	}
	return l
}

// bytesOf are the bytes of pieces.
func bytesOf(chain []piece) []string {
	var l []string
	for _, p := range chain {
		l = append(l, p.s)
	}
	return l
}

// row is so many certificates: the first one is the host's, and may not sign; each is signed by the next one, the last one by root.
func row(n int) []cert.Cert {
	var l []cert.Cert
	for i := range n {
		by := key(i + 1)
		if i == n-1 {
			by = root
		}
		c := cert.Cert{Key: key(i), Signer: sum(form(by)), From: from, Until: to, CA: i > 0}
		if i == 0 {
			c.Names = []string{host}
		}
		l = append(l, c)
	}
	return l
}

// key is that of a row's certificate.
func key(i int) string {
	return "key " + string([]byte{byte('0' + i)})
}

// but is a row whose certificate at that place is changed.
func but(l []cert.Cert, at int, change func(c *cert.Cert)) []cert.Cert {
	l = slices.Clone(l)
	l[at] = cert.Copy(l[at])
	change(&l[at])
	return l
}

// matches wants that a chain is matched by a record, or not, and that the words say so.
func matches(t *testing.T, r api.TLSA, chain []piece, whose string, now int, want bool) {
	t.Helper()
	if got := tlsa.Matches(r, bytesOf(chain), whose, now); got != want || isMatched(r, chain, whose, now) != want {
		t.Errorf("Matches(%q, %x, %q, %d): %v; want %v", tlsa.Show(r), bytesOf(chain), whose, now, got, want)
	}
	one := []api.TLSA{r}
	if got := tlsa.Any(one, bytesOf(chain), whose, now); got != want {
		t.Errorf("Any of %q alone, %x, %q, %d: %v; want %v", tlsa.Show(r), bytesOf(chain), whose, now, got, want)
	}
}

// TestExamples: those of the chapter.
func TestExamples(t *testing.T) {
	chain := certificates(t, row(2)...)
	own := record(3, 1, 1, sum(form(key(0))))
	for _, h := range []string{host, "other.example", ""} {
		for _, now := range []int{-1, 0, from - 1, from, to, to + 1, maxClock} {
			matches(t, own, chain, h, now, true)
		}
	}
	by := record(2, 0, 0, chain[1].s)
	matches(t, by, chain, host, from, true)
	matches(t, by, chain, "other.example", from, false)
	matches(t, by, certificates(t, but(row(2), 0, func(c *cert.Cert) { c.Signer = sum(form("another")) })...), host, from, false)
	matches(t, by, chain, host, to+1, false)
	signs := certificates(t, but(row(2), 1, func(c *cert.Cert) { c.CA = false })...)
	matches(t, record(2, 0, 0, signs[1].s), signs, host, from, false)
	digest := sum("x")
	for _, r := range []api.TLSA{record(1, 1, 1, digest), record(3, 2, 1, digest), record(3, 1, 2, digest), record(3, 1, 1, digest[:31])} {
		if tlsa.Usable(r) {
			t.Errorf("%q is usable", tlsa.Show(r))
		}
	}
	if s := tlsa.Show(record(3, 1, 1, "\xab\xab")); s != "3 1 1 abab" {
		t.Errorf("Show: %q", s)
	}
}

// lengths are those of Data at which something may change, and their neighbours.
func lengths() []int {
	return []int{0, 1, 2, 30, 31, 32, 33, 34, 64, 256, maxCert - 1, maxCert, maxCert + 1, 2 * maxCert, 1 << 16}
}

// TestUsable: P16.1: all numbers, each with each length of Data.
func TestUsable(t *testing.T) {
	for _, n := range lengths() {
		data := strings.Repeat("\x00", n)
		for usage := range 8 {
			for selector := range 8 {
				for match := range 8 {
					r := record(uint8(usage), uint8(selector), uint8(match), data)
					if got := tlsa.Usable(r); got != isUsable(r) {
						t.Errorf("Usable of %d %d %d and %d bytes: %v", usage, selector, match, n, got)
					}
				}
			}
		}
	}
}

// TestUsableByHand: P16.1: the edges, as numbers.
func TestUsableByHand(t *testing.T) {
	for _, x := range []struct {
		usage, selector, match uint8
		n                      int
		want                   bool
	}{
		{2, 0, 0, 1, true}, {2, 0, 1, 32, true}, {2, 1, 0, 1, true}, {2, 1, 1, 32, true},
		{3, 0, 0, 1, true}, {3, 0, 1, 32, true}, {3, 1, 0, 1, true}, {3, 1, 1, 32, true},
		{0, 0, 0, 1, false}, {1, 0, 0, 1, false}, {4, 0, 0, 1, false}, {255, 0, 0, 1, false},
		{3, 2, 0, 1, false}, {3, 255, 0, 1, false}, {3, 0, 2, 1, false}, {3, 0, 2, 32, false}, {3, 0, 2, 64, false}, {3, 0, 255, 32, false},
		{3, 0, 0, 0, false}, {3, 0, 0, 31, true}, {3, 0, 0, 32, true}, {3, 0, 0, 33, true}, {3, 0, 0, 512, true}, {3, 0, 0, 513, false},
		{3, 0, 1, 0, false}, {3, 0, 1, 1, false}, {3, 0, 1, 31, false}, {3, 0, 1, 33, false}, {3, 0, 1, 512, false},
		{2, 1, 0, 0, false}, {2, 1, 0, 512, true}, {2, 1, 0, 513, false}, {2, 1, 1, 31, false}, {2, 1, 1, 33, false},
	} {
		r := record(x.usage, x.selector, x.match, strings.Repeat("x", x.n))
		if got := tlsa.Usable(r); got != x.want {
			t.Errorf("Usable of %d %d %d and %d bytes: %v", x.usage, x.selector, x.match, x.n, got)
		}
	}
}

// TestUsableOfAllNumbers: P16.1: each number alone, from its first one to its last one.
func TestUsableOfAllNumbers(t *testing.T) {
	data := sum("x")
	for n := range 256 {
		b := uint8(n)
		if got := tlsa.Usable(record(b, 1, 1, data)); got != (n == 2 || n == 3) {
			t.Errorf("Usage %d: %v", n, got)
		}
		if got := tlsa.Usable(record(3, b, 1, data)); got != (n < 2) {
			t.Errorf("Selector %d: %v", n, got)
		}
		if got := tlsa.Usable(record(3, 1, b, data)); got != (n < 2) {
			t.Errorf("Match %d: %v", n, got)
		}
	}
}

// usables wants the Usables of records.
func usables(t *testing.T, l []api.TLSA, want []api.TLSA) {
	t.Helper()
	if got := tlsa.Usables(l); !slices.Equal(got, want) {
		t.Errorf("Usables(%q): %q; want %q", l, got, want)
	}
}

// TestUsables: P16.1: of none, of each number up to MaxTLSA, and of more.
func TestUsables(t *testing.T) {
	usables(t, nil, nil)
	usables(t, []api.TLSA{}, nil)
	var l []api.TLSA
	for i := range 9 {
		l = append(l, record(2+uint8(i%2), uint8(i/2%2), 0, "data "+string([]byte{byte('0' + i)})))
		usables(t, l, l[:min(len(l), 4)])
	}
}

// TestUsablesOfAllRows: P16.1: all rows of up to six out of two that are usable, and two that are not: those that are not take a place.
func TestUsablesOfAllRows(t *testing.T) {
	some := []api.TLSA{record(3, 1, 0, "a"), record(2, 0, 0, "b"), record(1, 1, 0, "a"), record(3, 0, 1, "b")}
	for n := range 7 {
		for l := range every.Row(some, n) {
			var want []api.TLSA
			for i, r := range l {
				if i < 4 && isUsable(r) {
					want = append(want, r)
				}
			}
			usables(t, l, want)
		}
	}
}

// TestUsablesOfTheSame: P16.1: two that are the same stay two.
func TestUsablesOfTheSame(t *testing.T) {
	l := slices.Repeat([]api.TLSA{record(3, 1, 1, sum("x"))}, 5)
	usables(t, l, l[:4])
	usables(t, l[:2], l[:2])
}
