package order

import (
	"math"
	"slices"
	"strings"
	"testing"

	"lodestone/api"
)

func TestParts(t *testing.T) {
	for _, c := range []struct{ got, want string }{
		{Num(0), "\x10"}, {Num(1), "\x11\x01"}, {Num(255), "\x11\xff"}, {Num(256), "\x12\x01\x00"},
		{Num(math.MaxUint64), "\x18\xff\xff\xff\xff\xff\xff\xff\xff"},
		{Int(0), "\x20\x80\x00\x00\x00\x00\x00\x00\x00"}, {Int(-1), "\x20\x7f\xff\xff\xff\xff\xff\xff\xff"},
		{Int(math.MinInt64), "\x20\x00\x00\x00\x00\x00\x00\x00\x00"}, {Int(math.MaxInt64), "\x20\xff\xff\xff\xff\xff\xff\xff\xff"},
		{Text(""), "\x30\x00\x01"}, {Text("a\x00b"), "\x30a\x00\xffb\x00\x01"},
	} {
		if c.got != c.want {
			t.Errorf("%x is not %x", c.got, c.want)
		}
	}
}

// rising tells whether keys rise and none begins another one.
func rising(t *testing.T, keys []string) {
	t.Helper()
	for i := 1; i < len(keys); i++ {
		if keys[i-1] >= keys[i] {
			t.Errorf("%x is not below %x", keys[i-1], keys[i])
		}
	}
	for i, a := range keys {
		for j, b := range keys {
			if i != j && strings.HasPrefix(a, b) {
				t.Errorf("%x begins %x", b, a)
			}
		}
	}
}

func TestPartsRise(t *testing.T) {
	var nums, ints, texts []string
	for _, n := range []uint64{0, 1, 2, 127, 128, 255, 256, 257, 65535, 65536, 1 << 32, 1<<63 - 1, 1 << 63, math.MaxUint64} {
		nums = append(nums, Num(n))
	}
	for _, n := range []int64{math.MinInt64, -1 << 32, -256, -255, -2, -1, 0, 1, 2, 255, 256, 1 << 32, math.MaxInt64} {
		ints = append(ints, Int(n))
	}
	words := []string{"", "\x00", "\x00\x00", "\x00\x01", "\x00\xff", "\x01", "a", "a\x00", "a\x00b", "a\x01", "aa", "ab", "b", "\xff", "\xff\x00", "\xff\xff"}
	slices.Sort(words)
	for _, s := range words {
		texts = append(texts, Text(s))
	}
	rising(t, nums)
	rising(t, ints)
	rising(t, texts)
}

func TestAbove(t *testing.T) {
	for _, c := range []struct{ s, want string }{
		{"", ""}, {"a", "b"}, {"a\xff", "b"}, {"a\xff\xff", "b"}, {"\xff", ""}, {"\xff\xff", ""}, {"ab", "ac"}, {"\x00", "\x01"}, {"\xfe\xff", "\xff"},
	} {
		if got := Above(c.s); got != c.want {
			t.Errorf("Above(%x) is %x", c.s, got)
		}
	}
}

func TestReadBack(t *testing.T) {
	p := Read(Num(70000) + Int(-5) + Text("a\x00\xff\x01") + Num(0) + Text(""))
	if p.Num() != 70000 || p.Int() != -5 || p.Text() != "a\x00\xff\x01" || p.Left() != 4 || p.Num() != 0 || p.Text() != "" {
		t.Errorf("read otherwise: %d", p.Err())
	}
	if p.End() != api.OK || p.Left() != 0 {
		t.Errorf("End %d", p.End())
	}
}

func TestErrors(t *testing.T) {
	num := func(p *Parts) { p.Num() }
	whole := func(p *Parts) { p.Int() }
	text := func(p *Parts) { p.Text() }
	for i, c := range []struct {
		s    string
		take func(*Parts)
		want api.Errno
	}{
		{"", num, api.ErrShort}, {"\x11", num, api.ErrShort}, {"\x12\x00", num, api.ErrShort}, {"\x12\x00\x01", num, api.ErrForm},
		{"\x11\x00", num, api.ErrForm}, {"\x0f", num, api.ErrForm}, {"\x19" + strings.Repeat("\x01", 9), num, api.ErrForm}, {"\x20", num, api.ErrForm},
		{"", whole, api.ErrShort}, {"\x20\x80", whole, api.ErrShort}, {"\x10", whole, api.ErrForm}, {Text("a"), whole, api.ErrForm},
		{"", text, api.ErrShort}, {"\x30", text, api.ErrShort}, {"\x30ab", text, api.ErrShort}, {"\x30ab\x00", text, api.ErrShort},
		{"\x30ab\x00\x02", text, api.ErrForm}, {"\x30\x00\x00", text, api.ErrForm}, {Int(1), text, api.ErrForm},
		{Num(1) + "x", num, api.ErrForm}, {Num(1), num, api.OK}, {Int(1), whole, api.OK}, {Text("t"), text, api.OK},
	} {
		p := Read(c.s)
		c.take(p)
		if e := p.End(); e != c.want || p.Err() != c.want {
			t.Errorf("case %d: %d, not %d", i, e, c.want)
		}
	}
}

func TestBehindAnErrorNothingIsTold(t *testing.T) {
	failed := Read("\x50" + Num(5) + Int(5) + Text("t"))
	failed.Num()
	for i, p := range []*Parts{nil, {}, failed} {
		before := p.Err()
		if before == api.OK || p.Left() != 0 || p.Num() != 0 || p.Int() != 0 || p.Text() != "" || p.End() != before {
			t.Errorf("case %d: something is told, %d", i, before)
		}
	}
	var none *Parts
	if none.Err() != api.ErrShort || none.End() != api.ErrShort {
		t.Errorf("of none: %d", none.Err())
	}
	if p := Read("\x20\x01"); p.Int() != 0 {
		t.Error("a number that is cut is told")
	}
}
