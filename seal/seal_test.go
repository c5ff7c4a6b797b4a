package seal

import (
	"strings"
	"testing"

	"lodestone/api"
	"lodestone/chacha"
	"lodestone/hmac"
)

var (
	testKeys = api.Keys{Turn: strings.Repeat("t", api.KeyBytes), Tag: strings.Repeat("g", api.KeyBytes)}
	nonce    = strings.Repeat("n", api.NonceBytes)
)

func TestPut(t *testing.T) {
	turned := chacha.Turn(testKeys.Turn, nonce, "text")
	want := turned + hmac.Tag(testKeys.Tag, "\x00\x00\x01\x02"+nonce+turned)
	if got := Put(testKeys, 0x102, nonce, "text"); got != want {
		t.Errorf("Put is %x", got)
	}
	if Put(testKeys, 1<<32+0x102, nonce, "text") != want {
		t.Error("places are not taken modulo 2^32")
	}
	if Put(testKeys, -1, nonce, "") != hmac.Tag(testKeys.Tag, "\xff\xff\xff\xff"+nonce) {
		t.Error("a place below nought is not taken modulo 2^32")
	}
}

func TestGetOfPut(t *testing.T) {
	for n := range 200 {
		s := strings.Repeat("s", n)
		if got, e := Get(testKeys, n, nonce, Put(testKeys, n, nonce, s)); got != s || e != api.OK {
			t.Errorf("Get of %d bytes: %d, %d", n, len(got), e)
		}
	}
}

func TestWhatMayNotBe(t *testing.T) {
	sealed := Put(testKeys, 1, nonce, "text")
	short := testKeys
	short.Turn = short.Turn[1:]
	if Put(short, 1, nonce, "text") != "" || Put(testKeys, 1, nonce[1:], "text") != "" || Put(api.Keys{}, 1, "", "") != "" {
		t.Error("what may not be is sealed")
	}
	for i, get := range []func() (string, api.Errno){
		func() (string, api.Errno) { return Get(short, 1, nonce, sealed) },
		func() (string, api.Errno) { return Get(testKeys, 1, nonce[1:], sealed) },
		func() (string, api.Errno) { return Get(testKeys, 1, nonce, sealed[:api.TagBytes-1]) },
		func() (string, api.Errno) { return Get(testKeys, 1, nonce, "") },
	} {
		if s, e := get(); s != "" || e != api.ErrShort {
			t.Errorf("case %d: %q, %d", i, s, e)
		}
	}
}

func TestAnotherTag(t *testing.T) {
	sealed := Put(testKeys, 1, nonce, "text")
	other := testKeys
	other.Tag = strings.Repeat("h", api.KeyBytes)
	refused := func(k api.Keys, place int, nonce, sealed string) {
		t.Helper()
		if s, e := Get(k, place, nonce, sealed); s != "" || e != api.ErrTag {
			t.Errorf("%q, %d", s, e)
		}
	}
	refused(other, 1, nonce, sealed)
	refused(testKeys, 2, nonce, sealed)
	refused(testKeys, 1, strings.Repeat("m", api.NonceBytes), sealed)
	refused(testKeys, 1, nonce, sealed[1:])
	refused(testKeys, 1, nonce, sealed+"x")
	for i := range len(sealed) {
		turned := []byte(sealed)
		turned[i] ^= 1
		refused(testKeys, 1, nonce, string(turned))
	}
	// A tag's key may be of any length.
	other.Tag = ""
	if s, e := Get(other, 1, nonce, Put(other, 1, nonce, "text")); s != "text" || e != api.OK {
		t.Errorf("%q, %d", s, e)
	}
}
