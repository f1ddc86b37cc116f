package tlsa_test

import (
	"slices"
	"testing"

	"mailroom/api"
	"mailroom/cert"
	"mailroom/every"
	"mailroom/tlsa"
)

// recordsOf are all that are made of a certificate, of a Usage, by the chapter's words.
func recordsOf(usage uint8, p piece) []api.TLSA {
	var l []api.TLSA
	for selector, some := range made(p) {
		for match, data := range some {
			l = append(l, record(usage, uint8(selector), uint8(match), data))
		}
	}
	return l
}

// TestOwn: P16.2: of Usage 3 the first certificate counts alone: whatever its names and dates are, and whatever stands behind it.
func TestOwn(t *testing.T) {
	own := certificate(t, row(1)[0])
	behind := [][]piece{nil, certificates(t, row(2)[1]), certificates(t, row(6)...), others(t), append(others(t)[:1], own)}
	for _, p := range several(t) {
		for _, r := range recordsOf(3, p) {
			for _, more := range behind {
				chain := append([]piece{p}, more...)
				for _, h := range []string{host, "other.example", "", "MX.example.com"} {
					for _, now := range []int{-1, 0, from - 1, from, to, to + 1, maxClock + 1} {
						matches(t, r, chain, h, now, true)
					}
				}
			}
		}
	}
}

// TestOwnIsNoOther: P16.2: of Usage 3 it does not do that another one than the first is the record's, nor of bytes that are none.
func TestOwnIsNoOther(t *testing.T) {
	for n := range 6 {
		chain := certificates(t, row(n)...)
		for i, p := range certificates(t, row(7)...) {
			for _, r := range recordsOf(3, p) {
				matches(t, r, chain, host, from, i == 0 && n > 0 && r.Selector == 1 || n > 0 && p.s == chain[0].s)
			}
		}
	}
	own := certificate(t, row(1)[0])
	for _, p := range others(t) {
		for _, r := range append(recordsOf(3, own), record(3, 0, 0, p.s), record(3, 0, 1, sum(p.s))) {
			matches(t, r, []piece{p, own}, host, from, false)
			matches(t, r, []piece{p}, host, from, false)
		}
	}
}

// TestOthersAtEachPlace: P16.2: of Usage 2 the record's certificate as the first, the second, and so on up to the last of MaxChain, and as those behind.
func TestOthersAtEachPlace(t *testing.T) {
	for n := range 8 {
		chain := certificates(t, row(n)...)
		for i, p := range chain {
			for _, r := range recordsOf(2, p) {
				matches(t, r, chain, host, from, i >= 1 && i < 4)
				matches(t, r, chain, host, to, i >= 1 && i < 4)
				matches(t, r, chain, "other.example", from, false)
			}
		}
		for _, r := range recordsOf(2, certificate(t, cert.Cert{Key: root, Signer: sum(form(root)), Until: maxClock, CA: true})) {
			matches(t, r, chain, host, from, false)
		}
	}
}

// TestOthersOfTheFirstOnesHost: P16.2: of Usage 2 just the first certificate's names count.
func TestOthersOfTheFirstOnesHost(t *testing.T) {
	for n := 2; n <= maxChain; n++ {
		for i := 1; i < n; i++ {
			for at := range n {
				chain := certificates(t, but(row(n), at, func(c *cert.Cert) { c.Names = []string{"other.example"} })...)
				for _, r := range recordsOf(2, chain[i]) {
					matches(t, r, chain, host, from, at != 0)
					matches(t, r, chain, "other.example", from, at == 0)
				}
			}
		}
	}
}

// TestOthersOfStars: P16.2: whether the first one is the host's is told by what chapter 15 says of names.
func TestOthersOfStars(t *testing.T) {
	for n, want := range map[string]bool{"*.example.com": true, "mx.example.com": true, "*.com": false, "*.mx.example.com": false, "example.com": false} {
		chain := bytesOf(certificates(t, but(row(2), 0, func(c *cert.Cert) { c.Names = []string{n} })...))
		r := record(2, 0, 0, chain[1])
		if got := tlsa.Matches(r, chain, host, from); got != want {
			t.Errorf("of a certificate of %q: %v", n, got)
		}
		if tlsa.Matches(r, chain, "a.com", from) {
			t.Errorf("a certificate of %q is a.com's", n)
		}
	}
	chain := certificates(t, row(2)...)
	for _, h := range []string{"", "MX.example.com", "mx.example.com.", ".mx.example.com", "*.example.com"} {
		matches(t, record(2, 0, 0, chain[1].s), chain, h, from, false)
	}
}

// TestOthersOfLinks: P16.2: of Usage 2 a link that does not hold, or one that may not sign, ahead of the record's certificate, there, and behind it.
func TestOthersOfLinks(t *testing.T) {
	for n := 2; n <= maxChain; n++ {
		for i := 1; i < n; i++ {
			for at := range n {
				for _, x := range []struct {
					change func(c *cert.Cert)
					want   bool
				}{
					{func(c *cert.Cert) { c.Signer = sum(form("another")) }, at >= i},
					{func(c *cert.Cert) { c.Signer = c.Signer[:31] + "\x00" }, at >= i},
					{func(c *cert.Cert) { c.Key = "another" }, at == 0 || at > i},
					{func(c *cert.Cert) { c.CA = false }, at == 0 || at > i},
					{func(c *cert.Cert) { c.CA = true }, true},
				} {
					chain := certificates(t, but(row(n), at, x.change)...)
					for _, r := range recordsOf(2, chain[i]) {
						matches(t, r, chain, host, from, x.want)
					}
				}
			}
		}
	}
}

// TestOthersOfDates: P16.2: of Usage 2 one that is not within its dates, just ahead of From, and just behind Until, ahead of the record's, that one itself, and behind it.
func TestOthersOfDates(t *testing.T) {
	for n := 2; n <= maxChain; n++ {
		for i := 1; i < n; i++ {
			for at := range n {
				chain := certificates(t, but(row(n), at, func(c *cert.Cert) { c.From, c.Until = from+10, to-10 })...)
				for _, r := range recordsOf(2, chain[i]) {
					for _, now := range []int{from + 10, from + 11, to - 11, to - 10} {
						matches(t, r, chain, host, now, true)
					}
					for _, now := range []int{from, from + 9, to - 9, to} {
						matches(t, r, chain, host, now, at > i)
					}
					for _, now := range []int{from - 1, to + 1, -1, 0, maxClock} {
						matches(t, r, chain, host, now, false)
					}
				}
			}
		}
	}
}

// TestOthersOfBytesThatAreNone: P16.2: of Usage 2 bytes that are none, at each place: what stands behind them is not read.
func TestOthersOfBytesThatAreNone(t *testing.T) {
	for n := 2; n <= maxChain+1; n++ {
		for at := range n {
			for _, bad := range others(t) {
				chain := certificates(t, row(n)...)
				for i := 1; i < n; i++ {
					r := record(2, 0, 0, chain[i].s)
					spoilt := slices.Clone(chain)
					spoilt[at] = bad
					matches(t, r, spoilt, host, from, i < at && i < maxChain)
					matches(t, r, slices.Insert(slices.Clone(chain), at, bad), host, from, i < at && i < maxChain)
				}
			}
		}
	}
}

// TestMatchesOfNoChain: P16.2: no chain, and one of one certificate.
func TestMatchesOfNoChain(t *testing.T) {
	p := certificate(t, but(row(1), 0, func(c *cert.Cert) { c.CA, c.Signer = true, sum(form(c.Key)) })[0])
	for usage := range uint8(5) {
		for _, r := range recordsOf(usage, p) {
			matches(t, r, nil, host, from, false)
			matches(t, r, []piece{}, host, from, false)
			matches(t, r, []piece{p}, host, from, usage == 3)
			matches(t, r, []piece{p, p}, host, from, usage == 2 || usage == 3)
		}
		matches(t, record(usage, 0, 0, ""), nil, host, from, false)
		matches(t, record(usage, 0, 0, ""), []piece{{}}, host, from, false)
		matches(t, record(usage, 0, 0, ""), []piece{p}, host, from, false)
	}
}

// TestMatchesOfNumbersThatMayNotBe: P16.2: a record that is not usable matches nothing.
func TestMatchesOfNumbersThatMayNotBe(t *testing.T) {
	chain := certificates(t, row(2)...)
	for n := range 256 {
		b := uint8(n)
		for i, p := range chain {
			for _, r := range recordsOf(b, p) {
				matches(t, r, chain, host, from, i == 0 && b == 3 || i == 1 && b == 2)
			}
			for usage := uint8(2); usage <= 3; usage++ {
				mine := i == 0 && usage == 3 || i == 1 && usage == 2
				matches(t, record(usage, b, 0, p.s), chain, host, from, mine && b == 0)
				matches(t, record(usage, b, 1, sum(form(p.c.Key))), chain, host, from, mine && b == 1)
				matches(t, record(usage, 1, b, sum(form(p.c.Key))), chain, host, from, mine && b == 1)
			}
		}
	}
}

// links are certificates of two keys, with each Signer, that may sign, and that may not, of two names and two dates; ahead of them bytes that are none.
func links(t *testing.T) []piece {
	t.Helper()
	list := []piece{{s: ""}}
	for _, k := range []string{"a", "b"} {
		for _, by := range []string{"a", "b"} {
			for _, ca := range []bool{false, true} {
				for _, until := range []int{1, 2} {
					for _, h := range []string{host, "x.com"} {
						list = append(list, certificate(t, cert.Cert{Key: k, Signer: sum(form(by)), Names: []string{h}, From: 1, Until: until, CA: ca}))
					}
				}
			}
		}
	}
	return list
}

// asked are records of Usages 2 and 3, of the keys, and of some of the bytes of these.
func asked(list []piece) []api.TLSA {
	var l []api.TLSA
	for usage := uint8(2); usage <= 3; usage++ {
		l = append(l, record(usage, 1, 1, sum(form("a"))), record(usage, 1, 0, form("b")), record(usage, 0, 0, list[len(list)-1].s), record(usage, 0, 1, sum(list[len(list)/2].s)))
	}
	return l
}

// holdsForAll holds all chains of so many out of these against the words: of each of the records, and of all of them.
func holdsForAll(t *testing.T, list []piece, n int) {
	t.Helper()
	records := asked(list)
	many := [2]int{}
	for chain := range every.Row(list, n) {
		bytes := bytesOf(chain)
		for now := range 4 {
			for _, h := range []string{host, "x.com"} {
				for i, r := range records {
					want := isMatched(r, chain, h, now)
					if got := tlsa.Matches(r, bytes, h, now); got != want {
						t.Fatalf("Matches(%q, %x, %q, %d): %v", tlsa.Show(r), bytes, h, now, got)
					}
					if want {
						many[i*2/len(records)]++
					}
				}
				for i := range records {
					some := records[i:]
					if got := tlsa.Any(some, bytes, h, now); got != isMatchedByAny(some, chain, h, now) {
						t.Fatalf("Any(%q, %x, %q, %d): %v", some, bytes, h, now, got)
					}
				}
			}
		}
	}
	if n > 1 && (many[0] == 0 || many[1] == 0) {
		t.Error("chains that were matched:", many)
	}
}

// TestMatchesOfAllRows: P16.2: all chains of up to two out of links, and of up to five out of fewer.
func TestMatchesOfAllRows(t *testing.T) {
	list := links(t)
	for n := range 3 {
		holdsForAll(t, list, n)
	}
	var some []piece
	for _, p := range list {
		if !p.is || p.c.Names[0] == host && p.c.Until == 2 {
			some = append(some, p)
		}
	}
	holdsForAll(t, some, 3)
	signs := func(k, by string, until int) piece {
		return certificate(t, cert.Cert{Key: k, Signer: sum(form(by)), Names: []string{host}, Until: until, CA: true})
	}
	few := []piece{signs("a", "a", 2), signs("a", "b", 2), signs("b", "a", 2), signs("b", "a", 1)}
	holdsForAll(t, few, 4)
	holdsForAll(t, few, 5)
}

// TestAny: P16.2: a usable record that matches as each one of those that count, and as those behind, among others that don't.
func TestAny(t *testing.T) {
	chain := certificates(t, row(2)...)
	for _, r := range []api.TLSA{recordsOf(3, chain[0])[3], recordsOf(2, chain[1])[0]} {
		for _, other := range []api.TLSA{record(3, 1, 1, sum("x")), record(1, 1, 1, r.Data), record(3, 1, 1, r.Data[1:]), {}} {
			for n := range 9 {
				for i := range n {
					l := slices.Repeat([]api.TLSA{other}, n)
					l[i] = r
					if got := tlsa.Any(l, bytesOf(chain), host, from); got != (i < 4) || got != isMatchedByAny(l, chain, host, from) {
						t.Errorf("Any of %d, of which the one at %d matches, the others %q: %v", n, i, tlsa.Show(other), got)
					}
				}
				if tlsa.Any(slices.Repeat([]api.TLSA{other}, n), bytesOf(chain), host, from) {
					t.Errorf("Any of %d of %q", n, tlsa.Show(other))
				}
			}
		}
	}
	for _, l := range [][]api.TLSA{nil, {}} {
		if tlsa.Any(l, bytesOf(chain), host, from) || tlsa.Any(l, nil, "", 0) {
			t.Error("Any of none")
		}
	}
}

// TestAnyOfBothUsages: P16.2: records of both Usages side by side: one of them is enough.
func TestAnyOfBothUsages(t *testing.T) {
	chain := certificates(t, row(3)...)
	some := []api.TLSA{recordsOf(3, chain[0])[1], recordsOf(3, chain[1])[1], recordsOf(2, chain[0])[1], recordsOf(2, chain[2])[2], record(2, 1, 3, "x")}
	seen := [2]int{}
	for n := range 6 {
		for l := range every.Row(some, n) {
			for _, now := range []int{from - 1, from} {
				want := isMatchedByAny(l, chain, host, now)
				if got := tlsa.Any(l, bytesOf(chain), host, now); got != want {
					t.Errorf("Any(%q) at %d: %v", l, now, got)
				}
				if want {
					seen[0]++
				} else {
					seen[1]++
				}
			}
		}
	}
	if seen[0] == 0 || seen[1] == 0 {
		t.Error(seen)
	}
}
