package keys

import (
	"crypto/hkdf"
	"crypto/sha256"
	"math"
	"testing"

	"lodestone/api"
)

func TestOf(t *testing.T) {
	seen := map[string]bool{}
	for _, master := range []string{"", "master", "0123456789abcdef0123456789abcdef"} {
		for epoch, info := range map[uint32]string{0: "epoch\x00\x00\x00\x00", 1: "epoch\x00\x00\x00\x01", 0x01020304: "epoch\x01\x02\x03\x04", math.MaxUint32: "epoch\xff\xff\xff\xff"} {
			want, err := hkdf.Key(sha256.New, []byte(master), []byte("lodestone"), info, api.KeysBytes)
			if err != nil {
				t.Fatal(err)
			}
			k := Of(master, epoch)
			if k.Turn != string(want[:32]) || k.Tag != string(want[32:]) {
				t.Errorf("keys of epoch %d are %x and %x", epoch, k.Turn, k.Tag)
			}
			if seen[k.Turn] || seen[k.Tag] || len(k.Turn) != api.KeyBytes || len(k.Tag) != api.KeyBytes {
				t.Errorf("keys of epoch %d are told twice", epoch)
			}
			seen[k.Turn], seen[k.Tag] = true, true
		}
	}
}
