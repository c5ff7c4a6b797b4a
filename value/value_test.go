package value

import (
	"math"
	"slices"
	"strings"
	"testing"

	"lodestone/api"
	"lodestone/code"
	"lodestone/order"
)

var none = api.Value{}

// rising has values that may be, each above those ahead of it.
var rising = []api.Value{
	none, Bool(false), Bool(true), Int(math.MinInt64), Int(-256), Int(-1), Int(0), Int(1), Int(255), Int(1 << 40), Int(math.MaxInt64),
	Text(""), Text("\x00"), Text("\x00\x01"), Text("\x00\xff"), Text("a"), Text("a\x00"), Text("a\x01"), Text("ab"), Text("b"), Text("\xff"), Text(strings.Repeat("\xff", api.MostLong)),
}

var mayNot = []api.Value{
	{N: 1}, {S: "s"}, {Kind: api.KindBool, N: 2}, {Kind: api.KindBool, N: -1}, {Kind: api.KindBool, S: "s"}, {Kind: api.KindInt, S: "s"},
	{Kind: api.KindText, N: 1}, {Kind: api.KindText, S: strings.Repeat("s", api.MostLong+1)}, {Kind: 4}, {Kind: -1}, {Kind: math.MaxInt}, {Kind: math.MinInt},
}

func TestForm(t *testing.T) {
	for _, c := range []struct {
		v    api.Value
		put  string
		part string
	}{
		{none, "\x00", "\x10\x20\x80\x00\x00\x00\x00\x00\x00\x00"},
		{Bool(true), "\x01\x01", "\x11\x01\x20\x80\x00\x00\x00\x00\x00\x00\x01"},
		{Bool(false), "\x01\x00", "\x11\x01\x20\x80\x00\x00\x00\x00\x00\x00\x00"},
		{Int(-2), "\x02\xff\xff\xff\xff\xff\xff\xff\xfe", "\x11\x02\x20\x7f\xff\xff\xff\xff\xff\xff\xfe"},
		{Text("a\x00"), "\x03\x02a\x00", "\x11\x03\x30a\x00\xff\x00\x01"},
	} {
		if Put(c.v) != c.put || Part(c.v) != c.part {
			t.Errorf("%v is %x and %x", c.v, Put(c.v), Part(c.v))
		}
	}
}

func TestMayPutAndTake(t *testing.T) {
	for _, v := range rising {
		r := code.Read(Put(v) + "x")
		if got := Take(r); !May(v) || got != v || r.Left() != 1 {
			t.Errorf("%.9v is taken as %.9v", v, got)
		}
		p := order.Read(Part(v) + "x")
		if got := Parted(p); got != v || p.Left() != 1 {
			t.Errorf("%.9v is parted as %.9v", v, got)
		}
	}
	for _, v := range mayNot {
		if May(v) || Put(v) != "" || Words(v) {
			t.Errorf("%.9v may be", v)
		}
		if got := Parted(order.Read(Part(v))); got != none && !May(got) {
			t.Errorf("%.9v is parted as %.9v", v, got)
		}
	}
}

func TestTakeErrors(t *testing.T) {
	for _, c := range []struct {
		s    string
		want api.Errno
	}{
		{"", api.ErrShort}, {"\x04", api.ErrForm}, {"\x01", api.ErrShort}, {"\x01\x02", api.ErrForm}, {"\x02\x00\x00\x00\x00\x00\x00\x00", api.ErrShort},
		{"\x03", api.ErrShort}, {"\x03\x02a", api.ErrShort}, {"\x03" + code.Num(api.MostLong+1), api.ErrForm}, {"\x80\x00", api.ErrForm},
	} {
		r := code.Read(c.s)
		if got := Take(r); got != none || r.Err() != c.want {
			t.Errorf("%x: %v, %d, not %d", c.s, got, r.Err(), c.want)
		}
	}
	if Take(nil) != none || Parted(nil) != none {
		t.Error("of none something is told")
	}
}

func TestPartedErrors(t *testing.T) {
	for _, c := range []struct {
		s    string
		want api.Errno
	}{
		{"", api.ErrShort}, {"\x11\x02", api.ErrShort}, {"\x11\x02" + order.Text("a"), api.ErrForm}, {"\x11\x03" + order.Int(1), api.ErrForm},
		{order.Int(5), api.ErrForm}, {"\x11\x03\x30a", api.ErrShort},
	} {
		p := order.Read(c.s)
		if got := Parted(p); got != none || p.Err() != c.want {
			t.Errorf("%x: %v, %d, not %d", c.s, got, p.Err(), c.want)
		}
	}
}

func TestCompareAndPartsRise(t *testing.T) {
	for i, a := range rising {
		for k, b := range rising {
			want := 0
			if i < k {
				want = -1
			} else if i > k {
				want = 1
			}
			if Compare(a, b) != want || strings.Compare(Part(a), Part(b)) != want || Same(a, b) != (want == 0) {
				t.Errorf("%.9v against %.9v: %d, parts %d", a, b, Compare(a, b), strings.Compare(Part(a), Part(b)))
			}
		}
	}
	if !slices.IsSortedFunc([]api.Value{{Kind: -1}, {}, {N: 1}, {N: 1, S: "s"}, {Kind: 9}}, Compare) {
		t.Error("values that may not be are not held against one another")
	}
}

func TestWords(t *testing.T) {
	for _, v := range []api.Value{Bool(false), Int(0), Text(""), Text(strings.Repeat("s", api.MostWord))} {
		if !Words(v) {
			t.Errorf("%v can't be found", v)
		}
	}
	for _, v := range []api.Value{none, Text(strings.Repeat("s", api.MostWord+1))} {
		if Words(v) {
			t.Errorf("%v can be found", v)
		}
	}
}
