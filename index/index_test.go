package index

import (
	"math"
	"slices"
	"strings"
	"testing"

	"lodestone/api"
	"lodestone/device"
	"lodestone/disk"
	"lodestone/value"
	"lodestone/vault"
	"lodestone/view"
)

var (
	none   = api.Value{}
	ranged = api.Index{Label: 1, Key: 2, Kind: api.IndexRange}
	unique = api.Index{Label: 1, Key: 3, Kind: api.IndexUnique}
	long   = value.Text(strings.Repeat("x", api.MostWord+1))
)

func newView(t *testing.T) (*view.View, *disk.Disk) {
	t.Helper()
	d, _ := disk.New(200, nil)
	dev, e := device.New("a master key of thirty-two bytes", d)
	if e != api.OK {
		t.Fatal(e)
	}
	v, e := vault.Open(d, dev, nil, api.Setup{Log: 8, Cache: 16})
	if e != api.OK {
		t.Fatal(e)
	}
	return view.New(v), d
}

// add adds what must be.
func add(t *testing.T, x *view.View, i api.Index, v api.Value, node uint64) {
	t.Helper()
	if e := Add(x, i, v, node); e != api.OK {
		t.Fatalf("Add: %d", e)
	}
}

func TestForm(t *testing.T) {
	v := value.Int(1)
	if Head(1, 0) != "r\x11\x01\x10" || Key(1, 0, v, 5) != "r\x11\x01\x10"+value.Part(v)+"\x11\x05" || One(1, 0, v) != "u\x11\x01\x10"+value.Part(v) {
		t.Errorf("%q, %q, %q", Head(1, 0), Key(1, 0, v, 5), One(1, 0, v))
	}
	if n := len(Key(63, 63, value.Text(strings.Repeat("\x00", api.MostWord)), math.MaxUint64)); n > api.MostKey {
		t.Errorf("a key of %d bytes", n)
	}
}

func TestAdd(t *testing.T) {
	x, _ := newView(t)
	add(t, x, ranged, none, 1)
	if e := Add(x, ranged, long, 1); e != api.ErrInput {
		t.Errorf("Add of a long text: %d", e)
	}
	if e := Add(x, unique, api.Value{N: 1}, 1); e != api.ErrInput {
		t.Errorf("Add of what may not be: %d", e)
	}
	if len(x.Changes()) != 0 {
		t.Errorf("changes are %v", x.Changes())
	}
	v := value.Int(7)
	for range 2 {
		add(t, x, ranged, v, 300)
		add(t, x, unique, v, 300)
	}
	add(t, x, ranged, v, 5)
	before := x.Changes()
	if e := Add(x, unique, v, 5); e != api.ErrTwice {
		t.Errorf("Add of a second node: %d", e)
	}
	want := []api.Change{{Key: Key(1, 2, v, 5)}, {Key: Key(1, 2, v, 300)}, {Key: Key(1, 3, v, 300)}, {Key: One(1, 3, v), Value: "\xac\x02"}}
	if !slices.Equal(before, want) || !slices.Equal(x.Changes(), want) {
		t.Errorf("changes are %v", x.Changes())
	}
}

func TestRemove(t *testing.T) {
	x, _ := newView(t)
	v := value.Text("v")
	add(t, x, unique, v, 1)
	add(t, x, ranged, v, 1)
	Remove(x, unique, v, 1)
	Remove(x, ranged, v, 1)
	Remove(x, unique, none, 1)
	Remove(x, unique, long, 1)
	for _, c := range x.Changes() {
		if !c.Gone {
			t.Errorf("%q is left", c.Key)
		}
	}
	if len(x.Changes()) != 3 {
		t.Errorf("changes are %v", x.Changes())
	}
	add(t, x, unique, v, 2)
	if l, e := Find(x, 1, 3, v); !slices.Equal(l, []uint64{2}) || e != api.OK {
		t.Errorf("Find: %v, %d", l, e)
	}
}

func TestBetween(t *testing.T) {
	x, _ := newView(t)
	values := []api.Value{value.Bool(false), value.Bool(true), value.Int(-5), value.Int(0), value.Int(5), value.Text(""), value.Text("a"), value.Text("b")}
	for i, v := range values {
		add(t, x, ranged, v, uint64(20-i))
		add(t, x, ranged, v, uint64(300+i))
	}
	add(t, x, api.Index{Label: 1, Key: 1, Kind: 1}, value.Int(1), 99)
	add(t, x, api.Index{Label: 1, Key: 3, Kind: 1}, value.Int(1), 99)
	add(t, x, api.Index{Label: 2, Key: 2, Kind: 1}, value.Int(1), 99)
	bounds := append([]api.Value{none, long, {Kind: -1}, {Kind: 9}, {N: 5}, {Kind: api.KindBool, N: 7}, {Kind: api.KindInt, S: "s"}, {Kind: api.KindText, N: -1, S: "a"}, value.Int(1), value.Text("aa")}, values...)
	for _, low := range bounds {
		for _, high := range bounds {
			var want []uint64
			for i, v := range values {
				if (low == none || value.Compare(v, low) >= 0) && (high == none || value.Compare(v, high) <= 0) {
					want = append(want, uint64(20-i), uint64(300+i))
				}
			}
			if got, e := Between(x, 1, 2, low, high); e != api.OK || !slices.Equal(got, want) {
				t.Errorf("Between %v and %v: %v, not %v, %d", low, high, got, want, e)
			}
		}
	}
}

func TestFind(t *testing.T) {
	x, _ := newView(t)
	add(t, x, ranged, value.Int(5), 300)
	add(t, x, ranged, value.Int(5), 7)
	add(t, x, ranged, value.Int(6), 8)
	for _, c := range []struct {
		v    api.Value
		want []uint64
	}{
		{value.Int(5), []uint64{7, 300}}, {value.Int(7), nil}, {none, nil}, {api.Value{Kind: api.KindInt, N: 5, S: "s"}, nil}, {long, nil}, {api.Value{N: 1}, nil},
	} {
		if got, e := Find(x, 1, 2, c.v); e != api.OK || !slices.Equal(got, c.want) {
			t.Errorf("Find of %v: %v, %d", c.v, got, e)
		}
	}
}

func TestMostNodes(t *testing.T) {
	x, _ := newView(t)
	for node := range uint64(api.MostRange + 50) {
		add(t, x, unique, value.Int(int64(node)), node)
	}
	if l, e := Between(x, 1, 3, none, none); e != api.OK || len(l) != api.MostRange || l[api.MostRange-1] != api.MostRange-1 {
		t.Errorf("Between: %d nodes, %d", len(l), e)
	}
	if l, e := Between(x, 1, 3, api.Value{Kind: api.KindInt, N: api.MostRange + 20, S: "s"}, none); e != api.OK || len(l) != 29 {
		t.Errorf("Between: %d nodes, %d", len(l), e)
	}
	if e := Clear(x, unique); e != api.OK {
		t.Errorf("Clear: %d", e)
	}
	if l, e := x.Range("", "", 9); len(l) != 0 || e != api.OK {
		t.Errorf("behind Clear: %v, %d", l, e)
	}
}

func TestClear(t *testing.T) {
	x, _ := newView(t)
	add(t, x, unique, value.Int(1), 1)
	add(t, x, unique, value.Text("a"), 2)
	add(t, x, ranged, value.Text("a"), 2)
	if e := Clear(x, unique); e != api.OK {
		t.Errorf("Clear: %d", e)
	}
	if l, e := x.Range("", "", 9); len(l) != 1 || l[0].Key != Key(1, 2, value.Text("a"), 2) || e != api.OK {
		t.Errorf("behind Clear: %v, %d", l, e)
	}
}

func TestErrors(t *testing.T) {
	x, d := newView(t)
	for i, key := range []string{"", "x", value.Part(value.Int(1)), value.Part(none) + "\x11\x01", value.Part(value.Int(1)) + "\x11\x01x"} {
		broken := x.Clone()
		broken.Put(Head(1, 2)+key, "")
		if l, e := Between(broken, 1, 2, none, none); l != nil || e != api.ErrIntegrity {
			t.Errorf("case %d: %v, %d", i, l, e)
		}
	}
	x.Put(One(1, 3, value.Int(1)), "\x80")
	if e := Add(x, unique, value.Int(1), 1); e != api.ErrIntegrity {
		t.Errorf("Add: %d", e)
	}
	d.Fail(0)
	for i, x := range []*view.View{nil, view.New(nil), x} {
		l, e := Between(x, 1, 2, none, none)
		l2, e2 := Find(x, 1, 2, value.Int(1))
		l3, e3 := Between(x, 1, 2, value.Int(5), value.Int(1))
		if l != nil || l2 != nil || l3 != nil || e != api.ErrPower || e2 != api.ErrPower || e3 != api.ErrPower || Clear(x, ranged) != api.ErrPower || Add(x, unique, value.Int(1), 1) != api.ErrPower {
			t.Errorf("case %d: %d, %d, %d", i, e, e2, e3)
		}
		Remove(x, unique, value.Int(1), 1)
	}
	if Add(nil, ranged, none, 1) != api.OK || Add(nil, ranged, long, 1) != api.ErrInput || Add(nil, ranged, value.Int(1), 1) != api.ErrPower {
		t.Error("Add to none")
	}
}
