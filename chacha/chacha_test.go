package chacha

import (
	"encoding/hex"
	"strings"
	"testing"

	"lodestone/api"
)

func testKey() string {
	key := make([]byte, api.KeyBytes)
	for i := range key {
		key[i] = byte(i)
	}
	return string(key)
}

func TestBlockAsTheStandardTells(t *testing.T) {
	want := "10f1e7e4d13b5915500fdd1fa32071c4c7d1f4c733c068030422aa9ac3d46c4ed2826446079faa0914c2d705d98b02a2b5129cd1de164eb9cbd083e8a2503c4e"
	got := hex.EncodeToString([]byte(Block(testKey(), "\x00\x00\x00\x09\x00\x00\x00\x4a\x00\x00\x00\x00", 1)))
	if got != want {
		t.Errorf("Block is %s", got)
	}
	want = "76b8e0ada0f13d90405d6ae55386bd28bdd219b8a08ded1aa836efcc8b770dc7da41597c5157488d7724e03fb8d84a376a43b8f41518a11cc387b669b2ee6586"
	if got := hex.EncodeToString([]byte(Block(strings.Repeat("\x00", 32), strings.Repeat("\x00", 12), 0))); got != want {
		t.Errorf("Block of noughts is %s", got)
	}
}

func TestTurnIsTheBlocksFromNumberNoughtOn(t *testing.T) {
	key, nonce := testKey(), "nonce of 12 "
	all := Block(key, nonce, 0) + Block(key, nonce, 1) + Block(key, nonce, 2)
	for _, n := range []int{0, 1, 63, 64, 65, 128, 130, 192} {
		if got := Turn(key, nonce, strings.Repeat("\x00", n)); got != all[:n] {
			t.Errorf("Turn of %d noughts is %x", n, got)
		}
	}
}

func TestTurnTwiceIsWhatItWas(t *testing.T) {
	key, nonce := testKey(), "nonce of 12 "
	s := strings.Repeat("what is turned, ", 40)
	turned := Turn(key, nonce, s)
	if turned == s || len(turned) != len(s) {
		t.Errorf("Turn is %x", turned)
	}
	if Turn(key, nonce, turned) != s {
		t.Error("turned again it is another text")
	}
	if Turn(key, "another one:", turned) == s {
		t.Error("another nonce turns alike")
	}
}

func TestMay(t *testing.T) {
	key, nonce := testKey(), "nonce of 12 "
	if !May(key, nonce) {
		t.Error("a key and a nonce may not be")
	}
	for _, c := range [][2]string{{"", ""}, {key, ""}, {key[1:], nonce}, {key + "k", nonce}, {key, nonce[1:]}, {key, nonce + "n"}, {nonce, key}} {
		if May(c[0], c[1]) || Block(c[0], c[1], 0) != "" || Turn(c[0], c[1], "text") != "" {
			t.Errorf("%q and %q may be", c[0], c[1])
		}
	}
}
