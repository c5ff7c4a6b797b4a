package block

import (
	"strings"
	"testing"

	"lodestone/api"
	"lodestone/code"
	"lodestone/keys"
	"lodestone/seal"
)

const master = "a master key of thirty-two bytes"

var head = api.Head{Epoch: 0x01020304, Counter: 0x0506070809101112, Index: 0x13141516}

func TestGetOfPut(t *testing.T) {
	for _, n := range []int{0, 1, 2, 255, 256, 257, api.PlainBytes - 1, api.PlainBytes} {
		s := strings.Repeat("s", n)
		b := Put(master, head, 7, s)
		if len(b) != api.BlockBytes {
			t.Fatalf("a block of %d bytes", len(b))
		}
		if h, got, e := Get(master, 7, b); h != head || got != s || e != api.OK {
			t.Errorf("Get of %d bytes: %v, %d bytes, %d", n, h, len(got), e)
		}
		if h, e := Head(b); h != head || e != api.OK {
			t.Errorf("Head is %v, %d", h, e)
		}
	}
}

func TestForm(t *testing.T) {
	want := "\x01\x02\x03\x04\x05\x06\x07\x08\x09\x10\x11\x12\x13\x14\x15\x16"
	b := Put(master, head, 7, "ab")
	if b[:api.HeadBytes] != want {
		t.Errorf("the head is %x", b[:api.HeadBytes])
	}
	plain := "\x00\x02ab" + strings.Repeat("\x00", api.PlainBytes-2)
	if b[api.HeadBytes:] != seal.Put(keys.Of(master, head.Epoch), 7, want[4:], plain) {
		t.Error("what is sealed is something else")
	}
	if Put(master, head, 7, strings.Repeat("s", api.PlainBytes+1)) != "" {
		t.Error("too many bytes are sealed")
	}
}

func TestErrors(t *testing.T) {
	b := Put(master, head, 7, "ab")
	refused := func(master string, place int, s string, want api.Errno) {
		t.Helper()
		if h, got, e := Get(master, place, s); h != (api.Head{}) || got != "" || e != want {
			t.Errorf("%v, %q, %d, not %d", h, got, e, want)
		}
	}
	for _, s := range []string{"", b[1:], b + "b"} {
		refused(master, 7, s, api.ErrShort)
		if h, e := Head(s); h != (api.Head{}) || e != api.ErrShort {
			t.Errorf("Head of %d bytes: %d", len(s), e)
		}
	}
	refused("another key", 7, b, api.ErrTag)
	refused(master, 8, b, api.ErrTag)
	for _, at := range []int{0, 3, 4, 11, 12, 15, 16, 100, 511} {
		changed := []byte(b)
		changed[at] ^= 128
		refused(master, 7, string(changed), api.ErrTag)
	}
}

func TestSealedOfAnotherForm(t *testing.T) {
	nonce := code.Big(head.Counter) + code.Small(head.Index)
	for _, plain := range []string{
		"\x01\xcf" + strings.Repeat("s", api.PlainBytes),                 // 463 bytes told
		"\xff\xff" + strings.Repeat("s", api.PlainBytes),                 // far too many told
		"\x00\x02ab" + strings.Repeat("\x00", api.PlainBytes-3) + "\x01", // no nought at the end
		"\x00\x02abc" + strings.Repeat("\x00", api.PlainBytes-3),         // no nought behind
		"\x00\x00" + strings.Repeat("\x00", api.PlainBytes/2) + strings.Repeat("\x01", api.PlainBytes/2),
	} {
		b := code.Small(head.Epoch) + nonce + seal.Put(keys.Of(master, head.Epoch), 7, nonce, plain)
		if h, s, e := Get(master, 7, b); h != (api.Head{}) || s != "" || e != api.ErrForm {
			t.Errorf("%v, %q, %d", h, s, e)
		}
	}
}
