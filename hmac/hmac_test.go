package hmac

import (
	stdhmac "crypto/hmac"
	"crypto/sha256"
	"encoding/hex"
	"strings"
	"testing"

	"lodestone/api"
)

func unhex(t *testing.T, s string) string {
	t.Helper()
	b, err := hex.DecodeString(s)
	if err != nil {
		t.Fatal(err)
	}
	return string(b)
}

func TestTagOfNothing(t *testing.T) {
	want := "b613679a0814d9ec772f95d778c35fc5ff1697c493715653c6c712144292c5ad"
	if got := hex.EncodeToString([]byte(Tag("", ""))); got != want {
		t.Errorf("Tag of nothing is %s", got)
	}
}

func TestTagOfEachKeyLength(t *testing.T) {
	for n := range 200 {
		key := strings.Repeat("k", n)
		s := strings.Repeat("text", n%9)
		h := stdhmac.New(sha256.New, []byte(key))
		h.Write([]byte(s))
		if got := Tag(key, s); got != string(h.Sum(nil)) {
			t.Fatalf("Tag under a key of %d bytes is %x", n, got)
		}
	}
}

func TestSame(t *testing.T) {
	for _, c := range []struct {
		a, b string
		same bool
	}{
		{"", "", true}, {"a", "a", true}, {"a", "", false}, {"", "a", false}, {"ab", "aa", false}, {"ba", "aa", false},
		{"aab", "aa", false}, {"\x00", "\x01", false}, {"\x80a", "\x00a", false}, {"abc", "abc", true},
	} {
		if Same(c.a, c.b) != c.same {
			t.Errorf("Same(%q, %q) is not %v", c.a, c.b, c.same)
		}
	}
}

func TestExpandAsTheStandardTells(t *testing.T) {
	secret := strings.Repeat("\x0b", 22)
	salt := unhex(t, "000102030405060708090a0b0c")
	purpose := unhex(t, "f0f1f2f3f4f5f6f7f8f9")
	key := Extract(salt, secret)
	if got := hex.EncodeToString([]byte(key)); got != "077709362c2e32df0ddc3f0dc47bba6390b6c73bb50f9c3122ec844ad7c2b3e5" {
		t.Errorf("Extract is %s", got)
	}
	want := "3cb25f25faacd57a90434f64d0362f2a2d2d0a90cf1a5a4c5db02d56ecc4c5bf34007208d5b887185865"
	got, e := Expand(key, purpose, 42)
	if e != api.OK || hex.EncodeToString([]byte(got)) != want {
		t.Errorf("Expand is %x, %d", got, e)
	}
}

func TestExpandLimits(t *testing.T) {
	whole, e := Expand("key", "for", api.MostExpand)
	if e != api.OK || len(whole) != api.MostExpand {
		t.Fatalf("Expand of the most: %d bytes, %d", len(whole), e)
	}
	for _, n := range []int{0, 1, 31, 32, 33, 64, 1000, api.MostExpand - 1} {
		s, e := Expand("key", "for", n)
		if e != api.OK || s != whole[:n] {
			t.Errorf("Expand of %d bytes: %d bytes, %d", n, len(s), e)
		}
	}
	for _, n := range []int{-1, -1 << 62, api.MostExpand + 1, 1 << 62} {
		if s, e := Expand("key", "for", n); s != "" || e != api.ErrInput {
			t.Errorf("Expand of %d bytes: %d bytes, %d", n, len(s), e)
		}
	}
}
