package cert_test

import (
	"crypto/sha256"
	"regexp"
	"slices"
	"strings"
	"testing"

	"mailroom/api"
	"mailroom/cert"
)

// The chapter's and the document's limits, and der's, as numbers.
const (
	maxCert  = 512
	maxClock = 1 << 40
	maxItems = 64
)

// signer is a Signer: bytes of whatever kinds.
const signer = "\x00\xff\x30\x82\x0401234567890123456789abcdefg"

// letters is a text of so many bytes, no two neighbours the same.
func letters(n int) string {
	const some = "abcdefghijklmnopqrstuvw"
	return strings.Repeat(some, n/len(some)+1)[:n]
}

// nameOf is a name of so many bytes.
func nameOf(n int) string {
	b := []byte(letters(n))
	for i := 49; i < n-1; i += 50 {
		b[i] = '.'
	}
	return string(b)
}

// thing is a thing's bytes, put together by hand.
func thing(tag byte, s string) string {
	n := len(s)
	switch {
	case n <= 127:
		return string([]byte{tag, byte(n)}) + s
	case n <= 255:
		return string([]byte{tag, 0x81, byte(n)}) + s
	}
	return string([]byte{tag, 0x82, byte(n / 256), byte(n % 256)}) + s
}

// number is a whole number's value: the last ones of eight bytes, as few as still tell its sign.
func number(n int) string {
	b := make([]byte, 8)
	for i := range b {
		b[7-i] = byte(n >> (8 * i))
	}
	for len(b) > 1 && (b[0] == 0 && b[1] < 0x80 || b[0] == 0xff && b[1] >= 0x80) {
		b = b[1:]
	}
	return string(b)
}

// truth is a truth value.
func truth(b bool) string {
	if b {
		return "\xff"
	}
	return "\x00"
}

// bytesOf is a certificate's bytes by the chapter's words.
func bytesOf(c cert.Cert) string {
	names := ""
	for _, n := range c.Names {
		names += thing(0x82, n)
	}
	return thing(0x30, thing(0x30, thing(0x04, c.Key))+thing(0x04, c.Signer)+thing(0x30, names)+
		thing(0x02, number(c.From))+thing(0x02, number(c.Until))+thing(0x01, truth(c.CA)))
}

var pattern = regexp.MustCompile(`^(\*\.)?((?:[a-z0-9](?:[a-z0-9-]{0,61}[a-z0-9])?\.)*[a-z0-9](?:[a-z0-9-]{0,61}[a-z0-9])?)$`)
var digitsAtTheEnd = regexp.MustCompile(`(^|\.)[0-9]+$`)

// isPattern tells by the words of chapter 3 whether a text is a pattern.
func isPattern(s string) bool {
	m := pattern.FindStringSubmatch(s)
	return m != nil && len(m[2]) <= 253 && !digitsAtTheEnd.MatchString(m[2])
}

// may tells by the chapter's words whether a certificate may be.
func may(c cert.Cert) bool {
	for _, n := range c.Names {
		if !isPattern(n) {
			return false
		}
	}
	return len(c.Key) >= 1 && len(c.Key) <= 64 && len(c.Signer) == 32 &&
		c.From >= 0 && c.From <= maxClock && c.Until >= 0 && c.Until <= maxClock
}

// one is the certificate of the chapter's example.
func one() cert.Cert {
	return cert.Cert{Key: "k", Signer: strings.Repeat("\x07", 32), Names: []string{"a.b"}, Until: 1}
}

// with is a certificate like that of the example, that is changed in some way.
func with(change func(c *cert.Cert)) cert.Cert {
	c := one()
	change(&c)
	return c
}

// named is one with these names.
func named(names ...string) cert.Cert {
	return with(func(c *cert.Cert) { c.Names = names })
}

// same holds two certificates against each other, field by field.
func same(a, b cert.Cert) bool {
	return a.Key == b.Key && a.Signer == b.Signer && slices.Equal(a.Names, b.Names) && a.From == b.From && a.Until == b.Until && a.CA == b.CA
}

// isNone tells whether a certificate has nothing in any field.
func isNone(c cert.Cert) bool {
	return c.Key == "" && c.Signer == "" && len(c.Names) == 0 && c.From == 0 && c.Until == 0 && !c.CA
}

// encodes wants a certificate's bytes, and that they are read as it was.
func encodes(t *testing.T, c cert.Cert) {
	t.Helper()
	want := bytesOf(c)
	if !cert.May(c) {
		t.Errorf("%+v may not be", c)
	}
	if got, e := cert.Encode(c); got != want || e != api.OK {
		t.Errorf("Encode(%+v): %x (%d), %v; want %x (%d)", c, got, len(got), e, want, len(want))
	}
	if back, e := cert.Decode(want); !same(back, c) || e != api.OK {
		t.Errorf("Decode(%x): %+v, %v; want %+v", want, back, e, c)
	}
}

// encodesNone wants that a certificate is refused, and nothing told beside the error.
func encodesNone(t *testing.T, c cert.Cert, want api.Errno) {
	t.Helper()
	if got, e := cert.Encode(c); got != "" || e != want {
		t.Errorf("Encode(%+v): %x, %v; want %v", c, got, e, want)
	}
}

// mayNot wants that a certificate may not be, has no bytes, and that what would be its bytes is none's.
func mayNot(t *testing.T, c cert.Cert) {
	t.Helper()
	if cert.May(c) {
		t.Errorf("%+v may be", c)
	}
	encodesNone(t, c, api.ErrForm)
	decodesNone(t, bytesOf(c))
}

// decodesNone wants that bytes are no certificate's, and nothing told beside the error.
func decodesNone(t *testing.T, s string) {
	t.Helper()
	want := api.ErrForm
	if len(s) > maxCert {
		want = api.ErrTooLarge
	}
	if c, e := cert.Decode(s); !isNone(c) || e != want {
		t.Errorf("Decode(%x (%d)): %+v, %v; want %v", s, len(s), c, e, want)
	}
}

// TestExamples: those of the chapter.
func TestExamples(t *testing.T) {
	if s := cert.Spki("k"); s != "\x30\x03\x04\x01\x6b" {
		t.Errorf("Spki(k): %x", s)
	}
	want := "\x30\x37" + "\x30\x03\x04\x01\x6b" + "\x04\x20" + strings.Repeat("\x07", 32) + "\x30\x05\x82\x03a.b" + "\x02\x01\x00" + "\x02\x01\x01" + "\x01\x01\x00"
	got, e := cert.Encode(one())
	if got != want || len(got) != 57 || e != api.OK {
		t.Errorf("%x (%d), %v; want %x", got, len(got), e, want)
	}
	if c, e := cert.Decode(want); !same(c, one()) || e != api.OK {
		t.Errorf("%+v, %v; want %+v", c, e, one())
	}
	decodesNone(t, want[:56])
}

// TestKeys: P14.1, of each length.
func TestKeys(t *testing.T) {
	for n := range 200 {
		c := with(func(c *cert.Cert) { c.Key = letters(n) })
		if n >= 1 && n <= 64 {
			encodes(t, c)
		} else {
			mayNot(t, c)
		}
	}
}

// TestSigners: of each length; those of 31, 32 and 33 bytes among them.
func TestSigners(t *testing.T) {
	for n := range 100 {
		c := with(func(c *cert.Cert) { c.Signer = letters(n) })
		if n == 32 {
			encodes(t, c)
		} else {
			mayNot(t, c)
		}
	}
}

// TestAllBytes: a key and a Signer are of whatever bytes.
func TestAllBytes(t *testing.T) {
	for i := range 256 {
		b := string([]byte{byte(i)})
		encodes(t, with(func(c *cert.Cert) { c.Key = b }))
		encodes(t, with(func(c *cert.Cert) { c.Key = strings.Repeat(b, 64) }))
		encodes(t, with(func(c *cert.Cert) { c.Signer = strings.Repeat(b, 32) }))
	}
}

// TestNames: none, one, several, one twice, with a star, and what is none, alone, ahead of others, and behind them.
func TestNames(t *testing.T) {
	encodes(t, named())
	good := []string{"a", "a.b", "*.a.b", "*.a", "*.com", "xn--bcher-kva.example", "localhost", "1.a", "a-b", nameOf(253), "*." + nameOf(253), letters(63) + ".a"}
	for _, n := range good {
		encodes(t, named(n))
		encodes(t, named(n, "a.b"))
		encodes(t, named("a.b", n))
	}
	encodes(t, named("a.b", "a.b"))
	encodes(t, named("*.b", "a.b", "*.b", "*.b"))
	bad := []string{"", ".", "*", "*.", "**.a", "*.*.a", "a.*", "*a.b", "a..b", ".a", "a.", "-a.b", "a.b-", "A.b", "a.B", "a.1", "1.2.3.4", "*.1", "a b", "a_b.c", "b\xc3\xbccher.example", "a\x00", "*.a.", letters(64), nameOf(254), "*." + nameOf(254)}
	for _, n := range bad {
		mayNot(t, named(n))
		mayNot(t, named(n, "a.b"))
		mayNot(t, named("a.b", n))
		mayNot(t, named("a.b", n, "a.b"))
	}
}

// TestNamesOfAllBytes: each byte at each place of a name.
func TestNamesOfAllBytes(t *testing.T) {
	for i := range 256 {
		b := string([]byte{byte(i)})
		for _, n := range []string{b, b + ".a", "a" + b, "a" + b + "c.d", "a." + b, b + "a", "*" + b + "a"} {
			if isPattern(n) {
				encodes(t, named(n))
			} else {
				mayNot(t, named(n))
			}
		}
	}
}

// TestManyNames: up to as many as a thing may have things; of one more the certificate may be, but has no bytes.
func TestManyNames(t *testing.T) {
	for n := range 200 {
		names := slices.Repeat([]string{"a"}, n)
		if n <= maxItems {
			encodes(t, named(names...))
			continue
		}
		if !cert.May(named(names...)) {
			t.Errorf("with %d names: it may not be", n)
		}
		encodesNone(t, named(names...), api.ErrForm)
		decodesNone(t, bytesOf(named(names...)))
	}
}

// times are ends, and what lies about them, and whether they are times.
var times = map[int]bool{
	-1 << 63: false, -1 << 40: false, -129: false, -128: false, -2: false, -1: false,
	0: true, 1: true, 127: true, 128: true, 255: true, 256: true, 32767: true, 32768: true, 1<<31 - 1: true, 1 << 31: true, 1 << 32: true, 1<<39 - 1: true, 1 << 39: true,
	maxClock - 1: true, maxClock: true, maxClock + 1: false, 1 << 41: false, 1 << 56: false, 1<<63 - 1: false,
}

// TestTimes: From and Until, each at each of these, also From above Until.
func TestTimes(t *testing.T) {
	for from, first := range times {
		for until, second := range times {
			c := with(func(c *cert.Cert) { c.From, c.Until = from, until })
			if first && second {
				encodes(t, c)
			} else {
				mayNot(t, c)
			}
		}
	}
}

// TestTruth: one that may sign others.
func TestTruth(t *testing.T) {
	encodes(t, with(func(c *cert.Cert) { c.CA = true }))
}

// long is a certificate of about so many bytes: the second name is of so many.
func long(first string, second int, key int) cert.Cert {
	return with(func(c *cert.Cert) {
		c.Key, c.Signer, c.Names, c.CA = letters(key), signer, []string{first, nameOf(second)}, true
	})
}

// TestLong: of certificates of each length about MaxCert, just those of no more bytes have some.
func TestLong(t *testing.T) {
	seen := map[int]bool{}
	for _, first := range []string{"a.b", "*." + nameOf(200), "*." + nameOf(253)} {
		for n := 1; n <= 253; n++ {
			for _, key := range []int{1, 5, 64} {
				c := long(first, n, key)
				s := bytesOf(c)
				seen[len(s)] = true
				if len(s) <= maxCert {
					encodes(t, c)
					continue
				}
				if !cert.May(c) {
					t.Errorf("%+v may not be", c)
				}
				encodesNone(t, c, api.ErrTooLarge)
				decodesNone(t, s)
			}
		}
	}
	if !seen[maxCert] || !seen[maxCert+1] {
		t.Error("no certificate of just so many bytes, or of one more, was tried")
	}
}

// TestFirstError: which error is told where two could be.
func TestFirstError(t *testing.T) {
	wide := slices.Repeat([]string{nameOf(253)}, 64)
	encodesNone(t, named(wide...), api.ErrTooLarge)
	encodesNone(t, named(append(wide, "a")...), api.ErrForm)
	encodesNone(t, named(append(slices.Clone(wide[1:]), "A")...), api.ErrForm)
	encodesNone(t, named(slices.Repeat(wide, 100)...), api.ErrForm)
	for _, change := range []func(c *cert.Cert){
		func(c *cert.Cert) { c.Key = "" },
		func(c *cert.Cert) { c.Key = letters(1 << 20) },
		func(c *cert.Cert) { c.Signer = "" },
		func(c *cert.Cert) { c.Signer = letters(1 << 20) },
		func(c *cert.Cert) { c.From = -1 },
		func(c *cert.Cert) { c.Until = maxClock + 1 },
		func(c *cert.Cert) { c.Names = append(slices.Clone(c.Names), nameOf(1<<16)) },
	} {
		c := named(wide...)
		change(&c)
		encodesNone(t, c, api.ErrForm)
	}
}

// TestDecodeOfTooMany: more than MaxCert bytes are too many, whatever they are.
func TestDecodeOfTooMany(t *testing.T) {
	whole := bytesOf(long("a.b", 20, 64))
	for _, s := range []string{"", "\x30\x00", "\x1f", whole, whole[:20], "\x30\x82\x01\xfe"} {
		for _, n := range []int{511, 512, 513, 514, 1 << 12, 1 << 16, 1 << 20} {
			if n < len(s) {
				continue
			}
			decodesNone(t, s+strings.Repeat("\x00", n-len(s)))
		}
	}
}

// TestSpki: P14.2, of all keys of one byte, and of each length.
func TestSpki(t *testing.T) {
	for i := range 256 {
		keyIs(t, string([]byte{byte(i)}))
	}
	for n := 1; n <= 64; n++ {
		keyIs(t, letters(n))
	}
	for _, n := range []int{0, 65, 66, 128, 256, 65535, 65536, 1 << 20} {
		if s := cert.Spki(letters(n)); s != "" {
			t.Errorf("Spki of %d bytes: %.10x (%d)", n, s, len(s))
		}
		if s := cert.Digest(letters(n)); s != "" {
			t.Errorf("Digest of %d bytes: %x", n, s)
		}
	}
}

// keyIs holds a key's form and its digest against the chapter's words.
func keyIs(t *testing.T, key string) {
	t.Helper()
	form := thing(0x30, thing(0x04, key))
	if s := cert.Spki(key); s != form {
		t.Errorf("Spki(%x): %x; want %x", key, s, form)
	}
	sum := sha256.Sum256([]byte(form))
	if s := cert.Digest(key); s != string(sum[:]) {
		t.Errorf("Digest(%x): %x; want %x", key, s, sum)
	}
}

// TestSame: two that differ in one field alone are not the same; a list of nothing is as none.
func TestSame(t *testing.T) {
	list := []cert.Cert{
		one(),
		with(func(c *cert.Cert) { c.Key = "l" }),
		with(func(c *cert.Cert) { c.Key = "k\x00" }),
		with(func(c *cert.Cert) { c.Key = "" }),
		with(func(c *cert.Cert) { c.Signer = strings.Repeat("\x07", 31) + "\x08" }),
		with(func(c *cert.Cert) { c.Signer = strings.Repeat("\x07", 31) }),
		with(func(c *cert.Cert) { c.Key, c.Signer = c.Signer, c.Key }),
		with(func(c *cert.Cert) { c.From = 1 }),
		with(func(c *cert.Cert) { c.From, c.Until = 1, 0 }),
		with(func(c *cert.Cert) { c.Until = 2 }),
		with(func(c *cert.Cert) { c.Until = -1 }),
		with(func(c *cert.Cert) { c.CA = true }),
		named(),
		named("a.c"),
		named("A.b"),
		named("*.b"),
		named("a.b", "a.b"),
		named("a.b", "a"),
		named("a", "a.b"),
		named("", "a.b"),
		named("a", ".b"),
		{},
	}
	for i, a := range list {
		for j, b := range list {
			if got := cert.Same(a, cert.Copy(b)); got != (i == j) {
				t.Errorf("Same(%+v, %+v): %v", a, b, got)
			}
		}
	}
	if none, empty := named(), named([]string{}...); !cert.Same(none, empty) || !cert.Same(empty, none) {
		t.Error("no names, and a list of none, are not the same")
	}
}
