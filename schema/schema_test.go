package schema

import (
	"math"
	"slices"
	"testing"

	"lodestone/api"
	"lodestone/code"
)

var three = []api.Index{{Label: 0, Key: 5, Kind: api.IndexRange}, {Label: 2, Key: 1, Kind: api.IndexUnique}, {Label: 2, Key: 3, Kind: api.IndexRange}}

// full is as many indexes as there may be.
func full() []api.Index {
	var l []api.Index
	for i := range api.MostIndexes {
		l, _ = Add(l, api.Index{Label: i % 4, Key: i, Kind: 1 + i%2})
	}
	return l
}

func TestMay(t *testing.T) {
	for _, x := range append(full(), api.Index{Label: 63, Key: 63, Kind: 2}) {
		if !May(x) {
			t.Errorf("%v may not be", x)
		}
	}
	for _, x := range []api.Index{{}, {Kind: 3}, {Kind: -1}, {Label: -1, Kind: 1}, {Key: -1, Kind: 1}, {Label: 64, Kind: 1}, {Key: 64, Kind: 1}, {Label: math.MaxInt, Kind: 1}} {
		if May(x) {
			t.Errorf("%v may be", x)
		}
		if l, e := Add(three, x); e != api.ErrInput || !slices.Equal(l, three) {
			t.Errorf("Add of %v: %d", x, e)
		}
	}
}

func TestAdd(t *testing.T) {
	var l []api.Index
	for _, i := range []int{1, 2, 0} {
		var e api.Errno
		if l, e = Add(l, three[i]); e != api.OK {
			t.Fatal(e)
		}
	}
	if !slices.Equal(l, three) {
		t.Errorf("indexes are %v", l)
	}
	for _, x := range []api.Index{three[1], {Label: 2, Key: 1, Kind: api.IndexRange}} {
		if got, e := Add(l, x); e != api.ErrInput || !slices.Equal(got, three) {
			t.Errorf("Add twice: %v, %d", got, e)
		}
	}
	l = full()
	if got, e := Add(l, api.Index{Label: 9, Key: 9, Kind: 1}); e != api.ErrFull || !slices.Equal(got, l) {
		t.Errorf("Add to the most: %d", e)
	}
	if got, e := Add(l, l[0]); e != api.ErrInput || !slices.Equal(got, l) {
		t.Errorf("Add of one that is there to the most: %d", e)
	}
	if !slices.IsSortedFunc(l, inOrder) || len(l) != api.MostIndexes {
		t.Errorf("%d indexes, not in order", len(l))
	}
}

func TestFind(t *testing.T) {
	for _, x := range three {
		if got := Find(three, x.Label, x.Key); got != x.Kind {
			t.Errorf("Find of %v is %d", x, got)
		}
	}
	if Find(three, 0, 1) != api.IndexNone || Find(three, 5, 0) != api.IndexNone || Find(nil, 0, 0) != api.IndexNone {
		t.Error("an index that is none is found")
	}
}

func TestDrop(t *testing.T) {
	got, ok := Drop(three, 2, 1)
	if !ok || !slices.Equal(got, []api.Index{three[0], three[2]}) {
		t.Errorf("Drop: %v, %v", got, ok)
	}
	got, ok = Drop(three, 1, 1)
	if ok || !slices.Equal(got, three) {
		t.Errorf("Drop of none: %v, %v", got, ok)
	}
	got[0].Key = 60
	added, _ := Add(three, three[0])
	added[0].Key = 60
	if three[0].Key != 5 {
		t.Error("a list is not the caller's own")
	}
}

func TestOf(t *testing.T) {
	if got := Of(three, []int{2, 7, 2}); !slices.Equal(got, three[1:]) {
		t.Errorf("Of is %v", got)
	}
	if got := Of(three, []int{2, 0}); !slices.Equal(got, three) {
		t.Errorf("Of is %v", got)
	}
	if len(Of(three, nil)) != 0 || len(Of(nil, []int{2})) != 0 {
		t.Error("indexes of nothing")
	}
}

func TestPutAndGet(t *testing.T) {
	if want := "\x03\x00\x05\x01\x02\x01\x02\x02\x03\x01"; Put(three) != want {
		t.Errorf("Put is %q", Put(three))
	}
	if Put([]api.Index{{Label: -1, Key: math.MinInt, Kind: -9}}) != "\x01\x00\x00\x00" {
		t.Error("numbers below 0 are not 0")
	}
	for _, l := range [][]api.Index{nil, three, full()} {
		if got, e := Get(Put(l)); e != api.OK || !slices.Equal(got, l) {
			t.Errorf("Get: %v, %d", got, e)
		}
	}
	whole := Put(three)
	for n := range len(whole) {
		if got, e := Get(whole[:n]); got != nil || e != api.ErrShort {
			t.Errorf("Get of %d bytes: %d", n, e)
		}
	}
	for i, s := range []string{
		whole + "x", code.Num(api.MostIndexes + 1), "\x01\x40\x00\x01", "\x01\x00\x40\x01", "\x01\x00\x00\x00", "\x01\x00\x00\x03",
		"\x02\x01\x00\x01\x00\x00\x01", "\x02\x00\x01\x01\x00\x00\x01", "\x02\x00\x01\x01\x00\x01\x02", "\x01\xff\x01\x00\x01",
	} {
		if got, e := Get(s); got != nil || e != api.ErrForm {
			t.Errorf("case %d: %d", i, e)
		}
	}
}
