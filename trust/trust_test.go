package trust_test

import (
	"crypto/sha256"
	"math"
	"regexp"
	"slices"
	"strings"
	"testing"

	"mailroom/cert"
	"mailroom/every"
	"mailroom/trust"
)

// The document's limits, as numbers.
const (
	maxChain = 4
	maxCert  = 512
	maxClock = 1 << 40
)

// The host whose the rows below are, and the dates within which they are.
const (
	host = "mx.example.com"
	from = 100
	to   = 200
)

// root is a key that stands in no certificate: an anchor's.
const root = "root"

// digest is a key's, by the words of chapter 14; of what is no key: the empty text.
func digest(key string) string {
	if key == "" || len(key) > 64 {
		return ""
	}
	sum := sha256.Sum256([]byte("\x30" + string([]byte{byte(len(key) + 2)}) + "\x04" + string([]byte{byte(len(key))}) + key))
	return string(sum[:])
}

var nameForm = regexp.MustCompile(`^(?:[a-z0-9](?:[a-z0-9-]{0,61}[a-z0-9])?\.)*[a-z0-9](?:[a-z0-9-]{0,61}[a-z0-9])?$`)
var digitsAtTheEnd = regexp.MustCompile(`(^|\.)[0-9]+$`)

// isName tells by the words of chapter 3 whether a text is a name.
func isName(s string) bool {
	return len(s) <= 253 && nameForm.MatchString(s) && !digitsAtTheEnd.MatchString(s)
}

// isHost tells by the chapter's words whether a certificate is a host's.
func isHost(c cert.Cert, host string) bool {
	if !isName(host) {
		return false
	}
	_, parent, _ := strings.Cut(host, ".")
	for _, n := range c.Names {
		if n == host || strings.Contains(parent, ".") && n == "*."+parent {
			return true
		}
	}
	return false
}

// isIn tells by the chapter's words whether a time is within a certificate's dates.
func isIn(c cert.Cert, now int) bool {
	return !(now < c.From || now > c.Until)
}

// areLinked tells by the chapter's words whether certificates are linked.
func areLinked(l []cert.Cert) bool {
	for i := 1; i < len(l); i++ {
		if l[i-1].Signer != digest(l[i].Key) || !l[i].CA {
			return false
		}
	}
	return true
}

// areAnchored tells by the chapter's words whether certificates are anchored: whether they are so by one of them.
func areAnchored(l []cert.Cert, now int, anchors []string) bool {
	for i := range l {
		if isAnchoredBy(l[:i+1], now, anchors) {
			return true
		}
	}
	return false
}

// isAnchoredBy tells whether certificates are anchored by their last one.
func isAnchoredBy(l []cert.Cert, now int, anchors []string) bool {
	for _, c := range l {
		if !isIn(c, now) {
			return false
		}
	}
	return areLinked(l) && slices.Index(anchors, l[len(l)-1].Signer) >= 0
}

// comesTo tells by the chapter's words what these certificates, all that are read of a chain, come to.
func comesTo(l []cert.Cert, host string, now int, anchors []string) uint8 {
	if len(l) == 0 {
		return trust.Untrusted
	}
	if !isIn(l[0], now) {
		return trust.Expired
	}
	if !isHost(l[0], host) {
		return trust.Mismatch
	}
	if !areAnchored(l, now, anchors) {
		return trust.Untrusted
	}
	return trust.Right
}

// named is a certificate with these names.
func named(names ...string) cert.Cert {
	return cert.Cert{Key: "k", Signer: digest(root), Names: names, From: from, Until: to}
}

// dated is one with these dates.
func dated(from, until int) cert.Cert {
	c := named(host)
	c.From, c.Until = from, until
	return c
}

// row is so many certificates: the first one is the host's, and may not sign; each is signed by the next one, the last one by root.
func row(n int) []cert.Cert {
	var l []cert.Cert
	for i := range n {
		c := cert.Cert{Key: key(i), Signer: digest(key(i + 1)), From: from, Until: to, CA: i > 0}
		if i == 0 {
			c.Names = []string{host}
		}
		if i == n-1 {
			c.Signer = digest(root)
		}
		l = append(l, c)
	}
	return l
}

// key is that of a row's certificate.
func key(i int) string {
	return "key " + string([]byte{byte('0' + i)})
}

// but is a row whose certificate at that place is changed.
func but(l []cert.Cert, at int, change func(c *cert.Cert)) []cert.Cert {
	l = slices.Clone(l)
	l[at] = cert.Copy(l[at])
	change(&l[at])
	return l
}

// bytesOf are the bytes of certificates.
func bytesOf(t *testing.T, l ...cert.Cert) []string {
	t.Helper()
	var chain []string
	for _, c := range l {
		s, e := cert.Encode(c)
		if e != 0 {
			t.Fatalf("Encode(%#v): %v", c, e)
		}
		chain = append(chain, s)
	}
	return chain
}

// hostIs holds Host against what is wanted, and that against the words.
func hostIs(t *testing.T, c cert.Cert, host string, want bool) {
	t.Helper()
	if got := trust.Host(c, host); got != want || isHost(c, host) != want {
		t.Errorf("Host of %q, %q: %v; want %v", c.Names, host, got, want)
	}
}

// judges wants what a chain comes to.
func judges(t *testing.T, chain []string, host string, now int, anchors []string, want uint8) {
	t.Helper()
	if got := trust.Judge(chain, host, now, anchors); got != want {
		t.Errorf("Judge(%x, %q, %d, %x): %d; want %d", chain, host, now, anchors, got, want)
	}
}

// TestExamples: those of the chapter.
func TestExamples(t *testing.T) {
	hostIs(t, named("*.example.com"), "mx.example.com", true)
	hostIs(t, named("*.example.com"), "example.com", false)
	hostIs(t, named("*.example.com"), "a.b.example.com", false)
	hostIs(t, named("*.com"), "a.com", false)
	c := named("*.example.com")
	anchors := []string{digest(root)}
	chain := bytesOf(t, c)
	judges(t, chain, "mx.example.com", from, anchors, trust.Right)
	judges(t, chain, "mx.example.com", to, anchors, trust.Right)
	judges(t, chain, "mx.example.com", to+1, anchors, trust.Expired)
	judges(t, chain, "mx.example.org", to, anchors, trust.Mismatch)
	judges(t, chain, "mx.example.com", to, nil, trust.Untrusted)
	judges(t, chain, "mx.example.com", to, []string{digest("r")}, trust.Untrusted)
	judges(t, []string{""}, "mx.example.com", to, anchors, trust.Untrusted)
	judges(t, nil, "mx.example.com", to, anchors, trust.Untrusted)
}

// TestAnswers: the answers are these numbers.
func TestAnswers(t *testing.T) {
	if trust.Right != 0 || trust.Expired != 1 || trust.Mismatch != 2 || trust.Untrusted != 3 {
		t.Error(trust.Right, trust.Expired, trust.Mismatch, trust.Untrusted)
	}
}

// TestHostWithoutStar: P15.1 and P15.7: names without a star are just the hosts that are the same.
func TestHostWithoutStar(t *testing.T) {
	names := []string{"mx.example.com", "example.com", "com", "a.mx.example.com", "mx.example.co", "mx.example.org", "my.example.com", "xn--bcher-kva.example", "mx"}
	for i, n := range names {
		for j, h := range names {
			hostIs(t, named(n), h, i == j)
			hostIs(t, named(n, n), h, i == j)
			hostIs(t, named("other.example", n), h, i == j)
			hostIs(t, named(n, "other.example"), h, i == j)
		}
	}
	for _, h := range names {
		hostIs(t, named(), h, false)
		hostIs(t, named(names...), h, true)
		hostIs(t, named("other.example", "another.example"), h, false)
	}
}

// TestHostWithStar: P15.1 and P15.7: a star with no label, one, two and more behind it, and hosts with as many labels, more and less.
func TestHostWithStar(t *testing.T) {
	hosts := []string{"d", "c.d", "b.c.d", "a.b.c.d", "z.a.b.c.d", "y.z.a.b.c.d", "x.c.d", "x.b.c.d", "b.x.d", "b.c.x", "x"}
	for n, whose := range map[string][]string{
		"*":         nil,
		"*.":        nil,
		"*.d":       nil,
		"*.c.d":     {"b.c.d", "x.c.d"},
		"*.b.c.d":   {"a.b.c.d", "x.b.c.d"},
		"*.a.b.c.d": {"z.a.b.c.d"},
		"*.x.d":     {"b.x.d"},
		"*.c.x":     {"b.c.x"},
		"*.x":       nil,
		"*.b.c":     nil,
		"*.*.c.d":   nil,
		"*.*":       nil,
		"*..d":      nil,
		"*c.d":      nil,
		"**.c.d":    nil,
		"b.*.d":     nil,
		"b.c.*":     nil,
		".c.d":      nil,
		"*.c.d.":    nil,
		"*.C.D":     nil,
	} {
		for _, h := range hosts {
			want := slices.Contains(whose, h)
			hostIs(t, named(n), h, want)
			hostIs(t, named("other.example", n), h, want)
			hostIs(t, named("*.other.example", n, "other.example"), h, want)
		}
	}
}

// TestHostOfSeveral: P15.1: one of the names is enough, wherever it stands; one that does not count takes nothing away.
func TestHostOfSeveral(t *testing.T) {
	hostIs(t, named("*.com", "a.com"), "a.com", true)
	hostIs(t, named("a.com", "*.com"), "a.com", true)
	hostIs(t, named("*.com", "*.org"), "a.com", false)
	hostIs(t, named("*.com", "*.a.com"), "b.a.com", true)
	hostIs(t, named("*.a.com", "*.b.com", "c.com"), "x.b.com", true)
	hostIs(t, named("*.a.com", "*.b.com", "c.com"), "x.c.com", false)
	hostIs(t, named("*.a.com", "*.a.com", "a.com"), "a.com", true)
	var many []string
	for i := range 60 {
		many = append(many, string([]byte{byte('a' + i%26), byte('a' + i/26)})+".example.com")
	}
	for _, h := range many {
		hostIs(t, named(many...), h, true)
		hostIs(t, named(many...), "x."+h, false)
	}
}

// TestHostThatIsNone: P15.1: great letters, a dot behind, and what is no name otherwise, are nobody's host, also where a name is the same.
func TestHostThatIsNone(t *testing.T) {
	for _, h := range []string{"", ".", "*", "*.", "MX.example.com", "mx.Example.com", "mx.example.com.", ".example.com", "mx..example.com", "*.example.com",
		"-.example.com", "-a.example.com", "a-.example.com", "a_b.example.com", "a b.example.com", "mx.example.com\x00", "\x00.example.com", "é.example.com", "mx.example.1",
		"mx.example.com..", " mx.example.com", strings.Repeat("a", 64) + ".example.com", strings.Repeat("a.", 126) + "ab"} {
		for _, n := range []string{h, "*.example.com", "mx.example.com", "*.mx.example.com", "*.example.1", "*." + h} {
			hostIs(t, named(n), h, false)
		}
	}
}

// TestHostOfAllBytes: each byte within a star's label.
func TestHostOfAllBytes(t *testing.T) {
	for i := range 256 {
		b := string([]byte{byte(i)})
		for _, h := range []string{b + ".example.com", "a" + b + "b.example.com", "a" + b + ".example.com"} {
			hostIs(t, named("*.example.com"), h, isName(h) && strings.Count(h, ".") == 2)
			hostIs(t, named(h), h, isName(h))
		}
	}
}

// TestHostOfLongNames: a star is a host's up to the length that a name has at most.
func TestHostOfLongNames(t *testing.T) {
	parent := strings.Repeat("a.", 124) + "b.c"
	hostIs(t, named("*."+parent), "a."+parent, true)
	hostIs(t, named("*."+parent), "ab."+parent, false)
	hostIs(t, named("*."+parent[2:]), strings.Repeat("d", 3)+"."+parent[2:], true)
	label := strings.Repeat("a", 63)
	hostIs(t, named("*.b.c"), label+".b.c", true)
	hostIs(t, named("*.b.c"), label+"a.b.c", false)
}

// TestHostOfShortNames: all hosts of few labels, and all names of these, with a star and without, against the words.
func TestHostOfShortNames(t *testing.T) {
	var hosts []string
	for n := range 5 {
		for labels := range every.Row([]string{"a", "b"}, n) {
			hosts = append(hosts, strings.Join(labels, "."))
		}
	}
	for _, n := range hosts {
		for _, h := range hosts {
			hostIs(t, named(n), h, isHost(named(n), h))
			hostIs(t, named("*."+n), h, isHost(named("*."+n), h))
		}
	}
}

// TestHostLooksAtNamesAlone: P15.1: what else a certificate says, also if it may not be, changes nothing.
func TestHostLooksAtNamesAlone(t *testing.T) {
	for _, c := range []cert.Cert{{}, {Key: host}, {Signer: host}, {From: -1, Until: -2}, {CA: true}} {
		hostIs(t, c, host, false)
		c.Names = []string{host}
		hostIs(t, c, host, true)
	}
}

// TestDates: P15.1: just ahead of From, at From, at Until, and just behind it.
func TestDates(t *testing.T) {
	times := []int{math.MinInt, -1, 0, 1, 2, from, 1 << 30, 1 << 31, 1 << 32, maxClock - 1, maxClock, maxClock + 1, math.MaxInt}
	for _, begin := range times {
		for _, end := range times {
			c := dated(begin, end)
			for _, now := range times {
				for _, at := range []int{now, now - 1, now + 1} {
					if got := trust.Dates(c, at); got != (begin <= at && at <= end) {
						t.Errorf("Dates of %d to %d at %d: %v", begin, end, at, got)
					}
				}
			}
		}
	}
}

// TestDatesByHand: P15.1, as numbers.
func TestDatesByHand(t *testing.T) {
	for _, x := range []struct {
		from, until, now int
		want             bool
	}{
		{100, 200, 99, false}, {100, 200, 100, true}, {100, 200, 101, true}, {100, 200, 150, true}, {100, 200, 199, true}, {100, 200, 200, true}, {100, 200, 201, false},
		{7, 7, 6, false}, {7, 7, 7, true}, {7, 7, 8, false},
		{8, 7, 7, false}, {8, 7, 8, false},
		{0, maxClock, 0, true}, {0, maxClock, maxClock, true}, {0, maxClock, -1, false}, {0, maxClock, maxClock + 1, false},
		{0, 0, 0, true}, {0, 0, 1, false},
	} {
		if got := trust.Dates(dated(x.from, x.until), x.now); got != x.want {
			t.Errorf("Dates of %d to %d at %d: %v", x.from, x.until, x.now, got)
		}
	}
}
