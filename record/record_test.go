package record

import (
	"math"
	"reflect"
	"strings"
	"testing"

	"lodestone/api"
	"lodestone/code"
	"lodestone/value"
)

// node and edge are things that may be.
func node() api.Thing {
	return api.Thing{Labels: []int{0, 5, 63}, Props: []api.Prop{{Key: 1, Value: value.Int(7)}, {Key: 9, Value: value.Text("x")}}}
}

func edge() api.Thing {
	return api.Thing{Edge: true, Type: 3, From: 300, To: math.MaxUint64, Props: []api.Prop{{Key: 0, Value: value.Bool(true)}}}
}

// much is so many properties.
func much(n int) []api.Prop {
	var l []api.Prop
	for i := range n {
		l = append(l, api.Prop{Key: i, Value: value.Int(int64(i))})
	}
	return l
}

func TestForm(t *testing.T) {
	if want := "\x00\x03\x00\x05\x3f\x02\x01\x02\x00\x00\x00\x00\x00\x00\x00\x07\x09\x03\x01x"; Put(node()) != want {
		t.Errorf("Put is %q", Put(node()))
	}
	if want := "\x01\x03\xac\x02\xff\xff\xff\xff\xff\xff\xff\xff\xff\x01\x01\x00\x01\x01"; Put(edge()) != want {
		t.Errorf("Put is %q", Put(edge()))
	}
}

func TestMay(t *testing.T) {
	for i, x := range []api.Thing{
		node(), edge(), {}, {Edge: true}, {Labels: []int{0, 1, 2, 3, 4, 5, 6, 7}}, {Props: much(16)}, {Edge: true, Type: 63},
		{Props: []api.Prop{{Key: 63, Value: value.Text(strings.Repeat("s", api.MostLong))}}},
	} {
		got, e := Get(Put(x))
		if !May(x) || e != api.OK || !reflect.DeepEqual(got, x) {
			t.Errorf("case %d: %v, %d", i, got, e)
		}
	}
	for i, x := range []api.Thing{
		{Type: 1}, {From: 1}, {To: 1}, {Edge: true, Labels: []int{1}}, {Edge: true, Type: -1}, {Edge: true, Type: 64}, {Labels: []int{-1}}, {Labels: []int{64}},
		{Labels: []int{2, 1}}, {Labels: []int{1, 1}}, {Labels: []int{0, 1, 2, 3, 4, 5, 6, 7, 8}}, {Props: much(17)},
		{Props: []api.Prop{{Key: 1}}}, {Props: []api.Prop{{Key: 64, Value: value.Int(1)}}}, {Props: []api.Prop{{Key: -1, Value: value.Int(1)}}},
		{Props: []api.Prop{{Key: 1, Value: value.Int(1)}, {Key: 1, Value: value.Int(1)}}}, {Props: []api.Prop{{Key: 2, Value: value.Int(1)}, {Key: 1, Value: value.Int(1)}}},
		{Props: []api.Prop{{Key: 1, Value: api.Value{Kind: 9}}}}, {Props: []api.Prop{{Key: 1, Value: value.Text(strings.Repeat("s", api.MostLong+1))}}},
	} {
		if May(x) || Put(x) != "" {
			t.Errorf("case %d may be", i)
		}
	}
}

func TestMostBytes(t *testing.T) {
	x := api.Thing{Props: []api.Prop{{Key: 0, Value: value.Text(strings.Repeat("a", 2000))}, {Key: 1, Value: value.Text(strings.Repeat("b", 2000))}, {Key: 2, Value: value.Text(strings.Repeat("c", 82))}}}
	if len(Put(x)) != api.MostValue {
		t.Fatalf("%d bytes", len(Put(x)))
	}
	if got, e := Get(Put(x)); e != api.OK || !reflect.DeepEqual(got, x) {
		t.Errorf("Get of the most: %d", e)
	}
	x.Props[2].Value.S += "c"
	if !May(x) || Put(x) != "" {
		t.Error("more than the most is put")
	}
	s := "\x00\x00\x03\x00" + value.Put(x.Props[0].Value) + "\x01" + value.Put(x.Props[1].Value) + "\x02" + value.Put(x.Props[2].Value)
	if got, e := Get(s); e != api.ErrForm || !reflect.DeepEqual(got, api.Thing{}) {
		t.Errorf("Get of %d bytes: %d", len(s), e)
	}
}

func TestGetErrors(t *testing.T) {
	for _, whole := range []string{Put(node()), Put(edge())} {
		for n := range len(whole) {
			if got, e := Get(whole[:n]); e != api.ErrShort || !reflect.DeepEqual(got, api.Thing{}) {
				t.Errorf("Get of %d bytes: %d", n, e)
			}
		}
		if _, e := Get(whole + "x"); e != api.ErrForm {
			t.Errorf("bytes left: %d", e)
		}
	}
	for _, c := range []struct {
		s    string
		want api.Errno
	}{
		{"\x02", api.ErrForm}, {"\x00\x09", api.ErrForm}, {"\x00\x08", api.ErrShort}, {"\x00\x01\x41", api.ErrForm}, {"\x00\x01\x40", api.ErrShort},
		{"\x00\x01\x40\x00", api.ErrForm}, {"\x00\x00\x11", api.ErrForm}, {"\x00\x00\x10", api.ErrShort}, {"\x00\x00\x01\x41", api.ErrForm}, {"\x00\x00\x01\x40", api.ErrShort},
		{"\x00\x00\x01\x40\x01\x00", api.ErrForm}, {"\x00\x00\x01\x00\x04", api.ErrForm}, {"\x00\x00\x01\x00\x01\x02", api.ErrForm}, {"\x00\x00\x01\x00\x00", api.ErrForm},
		{"\x01\x41", api.ErrForm}, {"\x01\x40\x00\x00\x00", api.ErrForm}, {"\x00\x02\x01\x00\x00", api.ErrForm}, {"\x00\x00\x01\x00\x03" + code.Num(2001), api.ErrForm},
	} {
		if got, e := Get(c.s); e != c.want || !reflect.DeepEqual(got, api.Thing{}) {
			t.Errorf("%q: %v, %d, not %d", c.s, got, e, c.want)
		}
	}
}

func TestFindAndWith(t *testing.T) {
	x := node()
	if Find(x, 9) != value.Text("x") || Find(x, 2) != (api.Value{}) {
		t.Error("Find tells others")
	}
	for _, key := range []int{0, 1, 5, 9, 20} {
		with := With(x, key, value.Int(3))
		if Find(with, key) != value.Int(3) || !May(with) || !reflect.DeepEqual(x, node()) {
			t.Errorf("With of %d is %v", key, with)
		}
		without := With(with, key, api.Value{})
		if Find(without, key) != (api.Value{}) || !May(without) {
			t.Errorf("without %d it is %v", key, without)
		}
		if key == 5 && !reflect.DeepEqual(without, x) {
			t.Errorf("without what was set it is %v", without)
		}
	}
	with := With(x, 2, api.Value{})
	with.Labels[0], with.Props[0].Key = 60, 60
	if !reflect.DeepEqual(x, node()) {
		t.Error("a thing is not the caller's own")
	}
}

func TestKeys(t *testing.T) {
	for _, c := range []struct{ got, want string }{
		{Key(false, 1), "n\x11\x01"}, {Key(true, 256), "e\x12\x01\x00"}, {Key(false, 0), "n\x10"},
		{Beside(true, 1, -1, 5), "o\x11\x01"}, {Beside(false, 1, 2, 0), "i\x11\x01\x11\x02"}, {Beside(true, 1, 0, 7), "o\x11\x01\x10\x11\x07"}, {Beside(true, 1, -9, 0), "o\x11\x01"},
	} {
		if c.got != c.want {
			t.Errorf("%q is not %q", c.got, c.want)
		}
	}
}
