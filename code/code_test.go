package code

import (
	"math"
	"strings"
	"testing"

	"lodestone/api"
)

const all = math.MaxUint64

func TestPut(t *testing.T) {
	for _, c := range []struct{ got, want string }{
		{Num(0), "\x00"}, {Num(1), "\x01"}, {Num(127), "\x7f"}, {Num(128), "\x80\x01"}, {Num(300), "\xac\x02"},
		{Num(all), "\xff\xff\xff\xff\xff\xff\xff\xff\xff\x01"}, {Num(1 << 63), "\x80\x80\x80\x80\x80\x80\x80\x80\x80\x01"},
		{Big(0x0102030405060708), "\x01\x02\x03\x04\x05\x06\x07\x08"}, {Big(all), strings.Repeat("\xff", 8)}, {Big(0), strings.Repeat("\x00", 8)},
		{Small(0x01020304), "\x01\x02\x03\x04"}, {Small(math.MaxUint32), "\xff\xff\xff\xff"},
		{Text(""), "\x00"}, {Text("ab"), "\x02ab"}, {Text(strings.Repeat("x", 200)), "\xc8\x01" + strings.Repeat("x", 200)},
		{Bool(true), "\x01"}, {Bool(false), "\x00"},
	} {
		if c.got != c.want {
			t.Errorf("%x is not %x", c.got, c.want)
		}
	}
}

func TestReadBack(t *testing.T) {
	s := Num(300) + Big(1<<40+5) + Small(1<<30+7) + Text("text") + Bool(true) + Bool(false) + "end"
	r := Read(s)
	if r.Left() != len(s) {
		t.Errorf("left %d of %d", r.Left(), len(s))
	}
	if n := r.Num(300); n != 300 {
		t.Errorf("Num %d", n)
	}
	if n := r.Big(); n != 1<<40+5 {
		t.Errorf("Big %d", n)
	}
	if n := r.Small(); n != 1<<30+7 {
		t.Errorf("Small %d", n)
	}
	if s := r.Text(4); s != "text" {
		t.Errorf("Text %q", s)
	}
	if !r.Bool() || r.Bool() {
		t.Error("Bool")
	}
	if s := r.Bytes(0); s != "" || r.Err() != api.OK {
		t.Errorf("no bytes: %q, %d", s, r.Err())
	}
	if s := r.Bytes(3); s != "end" || r.Left() != 0 {
		t.Errorf("Bytes %q, left %d", s, r.Left())
	}
	if e := r.End(); e != api.OK {
		t.Errorf("End %d", e)
	}
}

func TestNumReadsWhatItPuts(t *testing.T) {
	for shift := range 64 {
		for _, n := range []uint64{1 << shift, 1<<shift - 1, 1<<shift + 1} {
			r := Read(Num(n))
			if got := r.Num(all); got != n || r.End() != api.OK {
				t.Errorf("%d is read as %d, %d", n, got, r.Err())
			}
			if r := Read(Num(n)); n > 0 && (r.Num(n-1) != 0 || r.Err() != api.ErrForm) {
				t.Errorf("%d above the most: %d", n, r.Err())
			}
		}
	}
}

func TestNumErrors(t *testing.T) {
	nine := strings.Repeat("\xff", 9)
	for _, c := range []struct {
		s    string
		want api.Errno
	}{
		{"", api.ErrShort}, {"\x80", api.ErrShort}, {nine, api.ErrShort}, {nine + "\x01", api.OK},
		{"\x80\x00", api.ErrForm}, {"\x81\x80\x00", api.ErrForm}, {nine + "\x02", api.ErrForm}, {nine + "\x81", api.ErrForm},
		{nine + "\x80", api.ErrForm}, {nine + "\x00", api.ErrForm}, {"\x00", api.OK}, {"\x80\x80", api.ErrShort},
	} {
		r := Read(c.s)
		n := r.Num(all)
		if r.Err() != c.want || c.want != api.OK && n != 0 {
			t.Errorf("%x: %d, %d, not %d", c.s, n, r.Err(), c.want)
		}
	}
}

func TestTextErrors(t *testing.T) {
	for _, c := range []struct {
		s    string
		most int
		want api.Errno
	}{
		{"\x03ab", 3, api.ErrShort}, {"\x03abc", 2, api.ErrForm}, {"\x00", -5, api.OK}, {"\x01a", -5, api.ErrForm},
		{"", 5, api.ErrShort}, {"\x03abc", 3, api.OK}, {Num(api.MostText + 1), math.MaxInt, api.ErrForm},
		{Text(strings.Repeat("x", api.MostText)), math.MaxInt, api.OK},
	} {
		r := Read(c.s)
		s := r.Text(c.most)
		if r.Err() != c.want || c.want != api.OK && s != "" {
			t.Errorf("%.9x: %d bytes, %d, not %d", c.s, len(s), r.Err(), c.want)
		}
	}
}

func TestOtherErrors(t *testing.T) {
	for i, c := range []struct {
		s    string
		take func(*Reader)
		want api.Errno
	}{
		{"1234567", func(r *Reader) { r.Big() }, api.ErrShort},
		{"123", func(r *Reader) { r.Small() }, api.ErrShort},
		{"123", func(r *Reader) { r.Bytes(4) }, api.ErrShort},
		{"123", func(r *Reader) { r.Bytes(-1) }, api.ErrShort},
		{"\x02", func(r *Reader) { r.Bool() }, api.ErrForm},
		{"", func(r *Reader) { r.Bool() }, api.ErrShort},
		{"123", func(r *Reader) { r.Fail(api.ErrFull); r.Fail(api.ErrMuch) }, api.ErrFull},
		{"", func(r *Reader) { r.Fail(api.OK) }, api.OK},
		{"123", func(r *Reader) { r.Bytes(2) }, api.ErrForm},
		{"123", func(r *Reader) { r.Bytes(4); r.Fail(api.ErrForm) }, api.ErrShort},
	} {
		r := Read(c.s)
		c.take(r)
		if e := r.End(); e != c.want || r.Err() != c.want {
			t.Errorf("case %d: %d, %d, not %d", i, e, r.Err(), c.want)
		}
	}
}

func TestBehindAnErrorNothingIsLeft(t *testing.T) {
	none := []*Reader{nil, Read("\x01\x01\x01\x01\x01\x01\x01\x01\x01"), Read("\x01\x01")}
	none[1].Fail(api.ErrForm)
	none[2].End()
	for i, r := range none {
		before := r.Err()
		if r.Left() != 0 || r.Bytes(0) != "" || r.Bytes(1) != "" || r.Big() != 0 || r.Small() != 0 || r.Num(all) != 0 || r.Text(9) != "" || r.Bool() {
			t.Errorf("case %d: something is left", i)
		}
		if r.Err() != before || before == api.OK || r.End() != before {
			t.Errorf("case %d: %d was %d", i, r.Err(), before)
		}
	}
	none[0].Fail(api.ErrForm)
	if none[0].Err() != api.ErrShort {
		t.Errorf("of none: %d", none[0].Err())
	}
}
