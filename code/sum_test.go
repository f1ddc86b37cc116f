package code_test

import (
	"crypto/sha256"
	"encoding/hex"
	"strings"
	"testing"

	"mailroom/code"
)

// isSum wants the digest of s, that is written as hexadecimal.
func isSum(t *testing.T, s, want string) {
	t.Helper()
	got := code.Sum(s)
	if len(got) != 32 || hex.EncodeToString([]byte(got)) != want {
		t.Errorf("Sum of %d bytes %.20q: %x; want %s", len(s), s, got, want)
	}
}

// P2.3: the chapter's examples, and others that are known.
func TestSumsThatAreKnown(t *testing.T) {
	isSum(t, "", "e3b0c44298fc1c149afbf4c8996fb92427ae41e4649b934ca495991b7852b855")
	isSum(t, "abc", "ba7816bf8f01cfea414140de5dae2223b00361a396177a9cb410ff61f20015ad")
	isSum(t, "abcdbcdecdefdefgefghfghighijhijkijkljklmklmnlmnomnopnopq", "248d6a61d20638b8e5c026930c3e6039a33ce45964ff2167f6ecedd419db06c1")
	isSum(t, "abcdefghbcdefghicdefghijdefghijkefghijklfghijklmghijklmnhijklmnoijklmnopjklmnopqklmnopqrlmnopqrsmnopqrstnopqrstu",
		"cf5b16a778af8380036ce59e7b0492370b249b11e8f07a51afac45037afee9d1")
	isSum(t, strings.Repeat("a", 1000000), "cdc76e5c9914fb9281a1c7e284d73e67f1809a48a497200e046d39ccc7112cd0")
}

// P2.3: each length, so that the padding makes no block more, and one (56 to 64 modulo 64), and the length has one byte, two and three.
func TestSumOfEachLength(t *testing.T) {
	long := strings.Join(samples()[65000:65600], "") + strings.Repeat("\x80\x00\xff", 9000)
	for n := range 700 {
		sumIs(t, long[:n])
		sumIs(t, strings.Repeat("\x00", n))
		sumIs(t, strings.Repeat("\xff", n))
	}
	for _, n := range []int{1023, 1024, 8191, 8192, 8193, 20000} {
		sumIs(t, long[:n])
	}
}

// sumIs holds the digest of s against the library's.
func sumIs(t *testing.T, s string) {
	t.Helper()
	want := sha256.Sum256([]byte(s))
	if got := code.Sum(s); got != string(want[:]) {
		t.Errorf("Sum of %d bytes %.20q: %x; want %x", len(s), s, got, want)
	}
}

// P2.8: 32 bytes, and no two of some that are unlike have one; the same bytes have the same, each time.
func TestOneDigest(t *testing.T) {
	seen := map[string]string{}
	for _, s := range samples() {
		d := code.Sum(s)
		if len(d) != 32 {
			t.Fatalf("Sum(%q): %d bytes", s, len(d))
		}
		if other, ok := seen[d]; ok && other != s {
			t.Fatalf("Sum: %q and %q have one", s, other)
		}
		seen[d] = s
	}
	for d, s := range seen {
		if code.Sum(strings.Clone(s)) != d {
			t.Fatalf("Sum(%q): two digests", s)
		}
	}
}
