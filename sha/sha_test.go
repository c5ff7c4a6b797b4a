package sha

import (
	"crypto/sha256"
	"encoding/hex"
	"strings"
	"testing"

	"lodestone/api"
)

func TestSumOfKnownTexts(t *testing.T) {
	known := map[string]string{
		"":    "e3b0c44298fc1c149afbf4c8996fb92427ae41e4649b934ca495991b7852b855",
		"abc": "ba7816bf8f01cfea414140de5dae2223b00361a396177a9cb410ff61f20015ad",
		"abcdbcdecdefdefgefghfghighijhijkijkljklmklmnlmnomnopnopq": "248d6a61d20638b8e5c026930c3e6039a33ce45964ff2167f6ecedd419db06c1",
		strings.Repeat("a", 1000000):                               "cdc76e5c9914fb9281a1c7e284d73e67f1809a48a497200e046d39ccc7112cd0",
	}
	for s, want := range known {
		if got := hex.EncodeToString([]byte(Sum(s))); got != want {
			t.Errorf("Sum of %d bytes is %s, not %s", len(s), got, want)
		}
	}
}

func TestSumOfEachLength(t *testing.T) {
	all := make([]byte, 300)
	for i := range all {
		all[i] = byte(i * 37)
	}
	for n := range all {
		want := sha256.Sum256(all[:n])
		got := Sum(string(all[:n]))
		if len(got) != api.SumBytes || got != string(want[:]) {
			t.Fatalf("Sum of %d bytes is %x, not %x", n, got, want)
		}
	}
}
