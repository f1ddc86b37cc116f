package trust_test

import (
	"slices"
	"strings"
	"testing"

	"mailroom/cert"
	"mailroom/every"
	"mailroom/trust"
)

// roots are the anchors of a row.
func roots() []string {
	return []string{digest(root)}
}

// TestJudgeOfRows: P15.2: of each number of certificates, at each edge of their dates; of more than MaxChain the last one is not read.
func TestJudgeOfRows(t *testing.T) {
	for n := 1; n <= 6; n++ {
		want := trust.Right
		if n > maxChain {
			want = trust.Untrusted
		}
		chain := bytesOf(t, row(n)...)
		judges(t, chain, host, from-1, roots(), trust.Expired)
		judges(t, chain, host, from, roots(), want)
		judges(t, chain, host, to, roots(), want)
		judges(t, chain, host, to+1, roots(), trust.Expired)
		judges(t, chain, host, from, nil, trust.Untrusted)
		for at := range min(n, maxChain) {
			judges(t, chain, host, from, []string{row(n)[at].Signer}, trust.Right)
		}
		for _, h := range []string{"", "example.com", "a.mx.example.com", "MX.example.com", "mx.example.com."} {
			judges(t, chain, h, from, roots(), trust.Mismatch)
		}
	}
}

// TestJudgeWhichIsFirst: P15.2: of each row of what may be wrong what comes first is told.
func TestJudgeWhichIsFirst(t *testing.T) {
	for wrong := range 1 << 4 {
		unread, late, other, nobodys := wrong&1 != 0, wrong&2 != 0, wrong&4 != 0, wrong&8 != 0
		chain, whose, now, anchors := bytesOf(t, row(2)...), host, to, roots()
		want := trust.Right
		if nobodys {
			anchors, want = []string{digest("another")}, trust.Untrusted
		}
		if other {
			whose, want = "mx.example.org", trust.Mismatch
		}
		if late {
			now, want = to+1, trust.Expired
		}
		if unread {
			chain[0], want = chain[0][1:], trust.Untrusted
		}
		judges(t, chain, whose, now, anchors, want)
	}
}

// TestJudgeOfNone: P15.2: of which Read has none is Untrusted, whatever else is wrong.
func TestJudgeOfNone(t *testing.T) {
	for _, s := range none(t) {
		for _, now := range []int{from - 1, from, to + 1} {
			for _, h := range []string{host, "", "mx.example.org"} {
				judges(t, append([]string{s}, bytesOf(t, row(2)...)...), h, now, roots(), trust.Untrusted)
				judges(t, []string{s}, h, now, nil, trust.Untrusted)
			}
		}
	}
	judges(t, []string{}, host, from, roots(), trust.Untrusted)
	judges(t, nil, "", -1, nil, trust.Untrusted)
}

// TestJudgeOfTheOthers: P15.2: dates, names and the right to sign of the others: just those of the first one are Expired, or Mismatch.
func TestJudgeOfTheOthers(t *testing.T) {
	for n := 2; n <= maxChain; n++ {
		for i := 1; i < n; i++ {
			judges(t, bytesOf(t, but(row(n), i, func(c *cert.Cert) { c.Until = to - 1 })...), host, to, roots(), trust.Untrusted)
			judges(t, bytesOf(t, but(row(n), i, func(c *cert.Cert) { c.From = from + 1 })...), host, from, roots(), trust.Untrusted)
			judges(t, bytesOf(t, but(row(n), i, func(c *cert.Cert) { c.CA = false })...), host, from, roots(), trust.Untrusted)
			judges(t, bytesOf(t, but(row(n), i, func(c *cert.Cert) { c.Names = []string{"b.c"} })...), host, from, roots(), trust.Right)
			judges(t, bytesOf(t, but(row(n), i, func(c *cert.Cert) { c.Names = []string{"b.c"} })...), "b.c", from, roots(), trust.Mismatch)
			l := row(n)
			l[0], l[i] = l[i], l[0]
			judges(t, bytesOf(t, l...), host, from, roots(), trust.Mismatch)
			chain := bytesOf(t, row(n)...)
			chain[i] = chain[i][1:]
			judges(t, chain, host, from, roots(), trust.Untrusted)
		}
		judges(t, bytesOf(t, but(row(n), 0, func(c *cert.Cert) { c.CA = true })...), host, from, roots(), trust.Right)
	}
}

// link is a chain's piece: bytes, and the certificate whose they are, if they are one's.
type link struct {
	s  string
	c  cert.Cert
	is bool
}

// links are those of one key with each of some Signers, names and dates, that may sign, and that may not, and two of bytes that are none.
func links(t *testing.T) []link {
	t.Helper()
	list := []link{{s: ""}, {s: "\x30\x01"}}
	for _, by := range []string{"a", root} {
		for _, names := range [][]string{{host}, {"*.com", "x.com"}} {
			for _, dates := range [][2]int{{1, 1}, {1, 2}} {
				for _, ca := range []bool{false, true} {
					c := cert.Cert{Key: "a", Signer: digest(by), Names: names, From: dates[0], Until: dates[1], CA: ca}
					list = append(list, link{s: bytesOf(t, c)[0], c: c, is: true})
				}
			}
		}
	}
	return list
}

// parted tells the bytes of links, and the certificates of these that are to be read.
func parted(list []link) (chain []string, l []cert.Cert) {
	end := false
	for i, x := range list {
		chain = append(chain, x.s)
		end = end || !x.is || i == maxChain
		if !end {
			l = append(l, x.c)
		}
	}
	return chain, l
}

// TestJudgeOfAllRows: P15.2 and P15.3: all chains of up to three out of these, for two hosts, at three times, with some rows of anchors, against the words.
func TestJudgeOfAllRows(t *testing.T) {
	some := links(t)
	seen := map[uint8]int{}
	for n := range 4 {
		for list := range every.Row(some, n) {
			chain, l := parted(list)
			readsAs(t, chain, l)
			for _, h := range []string{host, "x.com", "y.com"} {
				for now := range 4 {
					for _, anchors := range [][]string{nil, roots(), {digest("b"), digest("a")}} {
						want := comesTo(l, h, now, anchors)
						judges(t, chain, h, now, anchors, want)
						seen[want]++
					}
				}
			}
		}
	}
	if len(seen) != 4 {
		t.Error("not each answer was told:", seen)
	}
}

// TestWhatIsRight: P15.3: Right just if the four of them hold, as the other calls tell.
func TestWhatIsRight(t *testing.T) {
	some := links(t)
	for n := range 4 {
		for list := range every.Row(some, n) {
			chain, _ := parted(list)
			for _, h := range []string{host, "x.com", "y.com"} {
				for now := range 4 {
					l := trust.Read(chain)
					is := len(l) > 0 && trust.Dates(l[0], now) && trust.Host(l[0], h) && trust.Anchored(l, now, roots())
					if got := trust.Judge(chain, h, now, roots()); (got == trust.Right) != is {
						t.Fatalf("Judge(%x, %q, %d): %d; by the other calls: %v", chain, h, now, got, is)
					}
				}
			}
		}
	}
}

// TestJudgeOfStars: P15.2 and P15.7: what Host tells of names is what Judge leans on.
func TestJudgeOfStars(t *testing.T) {
	for n, want := range map[string]uint8{
		"mx.example.com": trust.Right, "*.example.com": trust.Right, "*.com": trust.Mismatch, "*.mx.example.com": trust.Mismatch, "example.com": trust.Mismatch,
	} {
		judges(t, bytesOf(t, named(n)), host, from, roots(), want)
		judges(t, bytesOf(t, named("*.org", n)), host, from, roots(), want)
	}
	judges(t, bytesOf(t, named()), host, from, roots(), trust.Mismatch)
	judges(t, bytesOf(t, named("*.com")), "a.com", from, roots(), trust.Mismatch)
}

// TestJudgeOfManyAnchors: P15.2: it is enough that one of them has signed, wherever it stands.
func TestJudgeOfManyAnchors(t *testing.T) {
	others := []string{digest("x"), digest("y"), digest("z")}
	for i := range len(others) + 1 {
		anchors := slices.Insert(slices.Clone(others), i, digest(root))
		for n := 1; n <= maxChain; n++ {
			judges(t, bytesOf(t, row(n)...), host, from, anchors, trust.Right)
			judges(t, bytesOf(t, row(n)...), host, from, others, trust.Untrusted)
		}
	}
	for _, a := range []string{"", root, digest(root)[:31], digest(root) + "\x00", strings.ToUpper(digest(root)), cert.Spki(root)} {
		judges(t, bytesOf(t, row(1)...), host, from, []string{a}, trust.Untrusted)
		judges(t, bytesOf(t, row(1)...), host, from, []string{a, digest(root)}, trust.Right)
	}
}
