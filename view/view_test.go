package view

import (
	"fmt"
	"maps"
	"math"
	"slices"
	"testing"

	"lodestone/api"
	"lodestone/device"
	"lodestone/disk"
	"lodestone/vault"
)

func newVault(t *testing.T, blocks int, entries ...string) (*vault.Vault, *disk.Disk) {
	t.Helper()
	d, _ := disk.New(blocks, nil)
	dev, e := device.New("a master key of thirty-two bytes", d)
	if e != api.OK {
		t.Fatal(e)
	}
	v, e := vault.Open(d, dev, nil, api.Setup{Log: 64, Cache: 256})
	if e != api.OK {
		t.Fatal(e)
	}
	for chunk := range slices.Chunk(entries, api.MostChanges) {
		var l []api.Change
		for _, key := range chunk {
			l = append(l, api.Change{Key: key, Value: "stored"})
		}
		if e := v.Commit(l); e != api.OK {
			t.Fatal(e)
		}
	}
	return v, d
}

// all is what a view shows.
func all(t *testing.T, x *View) map[string]string {
	t.Helper()
	l, e := x.Range("", "", api.MostRange)
	if e != api.OK {
		t.Fatal(e)
	}
	got := map[string]string{}
	for _, entry := range l {
		got[entry.Key] = entry.Value
	}
	return got
}

func TestChangesOfOnesOwn(t *testing.T) {
	v, _ := newVault(t, 200, "a", "b", "c")
	x := New(v)
	x.Put("a", "mine")
	x.Put("d", "")
	x.Put("", "nothing")
	x.Del("b")
	x.Del("")
	want := map[string]string{"a": "mine", "c": "stored", "d": ""}
	if !maps.Equal(all(t, x), want) {
		t.Errorf("it shows %v", all(t, x))
	}
	for _, key := range []string{"a", "b", "c", "d", "e", ""} {
		value, found, e := x.Get(key)
		if _, there := want[key]; value != want[key] || found != there || e != api.OK {
			t.Errorf("Get of %q: %q, %v, %d", key, value, found, e)
		}
	}
	changes := []api.Change{{Key: "a", Value: "mine"}, {Key: "b", Gone: true}, {Key: "d"}}
	if !slices.Equal(x.Changes(), changes) {
		t.Errorf("Changes are %v", x.Changes())
	}
	if got, found, _ := v.Get("a"); got != "stored" || !found || len(all(t, New(v))) != 3 {
		t.Error("others see what is not committed")
	}
	v.Commit([]api.Change{{Key: "c", Value: "new"}})
	if got, _, _ := x.Get("c"); got != "new" {
		t.Error("what was committed is not seen")
	}
}

func TestRange(t *testing.T) {
	v, _ := newVault(t, 200, "a", "b", "c", "d", "e")
	x := New(v)
	x.Del("b")
	x.Put("bb", "mine")
	x.Del("x")
	want := []string{"a", "bb", "c", "d", "e"}
	for _, most := range []int{math.MinInt, -1, 0, 1, 2, 5, 9, math.MaxInt} {
		l, e := x.Range("", "", most)
		if e != api.OK || len(l) != min(max(most, 0), 5) {
			t.Errorf("Range of %d: %v, %d", most, l, e)
		}
		for i, entry := range l {
			if entry.Key != want[i] {
				t.Errorf("Range of %d: %v", most, l)
			}
		}
	}
	for _, c := range []struct{ from, to, first, last string }{{"b", "d", "bb", "c"}, {"bb", "bc", "bb", "bb"}, {"c", "", "c", "e"}} {
		l, _ := x.Range(c.from, c.to, 9)
		if len(l) == 0 || l[0].Key != c.first || l[len(l)-1].Key != c.last {
			t.Errorf("Range from %q to %q: %v", c.from, c.to, l)
		}
	}
	if l, e := x.Range("d", "b", 9); len(l) != 0 || e != api.OK {
		t.Errorf("Range of nothing: %v, %d", l, e)
	}
}

func TestRangeOfMoreThanTheStoreTellsAtOnce(t *testing.T) {
	var keys []string
	for i := range api.MostRange + 300 {
		keys = append(keys, fmt.Sprintf("%04d", i))
	}
	v, _ := newVault(t, 2000, keys...)
	x := New(v)
	for _, key := range keys[10:300] {
		x.Del(key)
	}
	x.Put("0000x", "mine")
	x.Put("zz", "mine")
	l, e := x.Range("", "", api.MostRange)
	if e != api.OK || len(l) != api.MostRange {
		t.Fatalf("Range: %d entries, %d", len(l), e)
	}
	want := slices.Concat(keys[:1], []string{"0000x"}, keys[1:10], keys[300:])
	for i, entry := range l {
		if entry.Key != want[i] {
			t.Fatalf("entry %d is %q, not %q", i, entry.Key, want[i])
		}
	}
	for _, key := range keys[300:] {
		x.Del(key)
	}
	if l, e := x.Range("", "", api.MostRange); e != api.OK || len(l) != 12 || l[11].Key != "zz" {
		t.Errorf("Range: %d entries, %d", len(l), e)
	}
}

func TestNeeds(t *testing.T) {
	x := New(nil)
	x.Need("b", false)
	x.Need("a", true)
	x.Need("b", true)
	x.Need("a", false)
	x.Need("c", false)
	want := []api.Need{{What: "b", Alone: true}, {What: "a", Alone: true}, {What: "c"}}
	if !slices.Equal(x.Needs(), want) {
		t.Errorf("Needs are %v", x.Needs())
	}
	x.Needs()[0].What = "changed"
	clone := x.Clone()
	clone.Need("c", false)
	if !slices.Equal(x.Needs(), want) || !slices.Equal(clone.Needs(), want[2:]) {
		t.Errorf("Needs are %v, a clone's %v", x.Needs(), clone.Needs())
	}
}

func TestSaveAndBack(t *testing.T) {
	v, _ := newVault(t, 200)
	x := New(v)
	for i := 1; i <= api.MostSaves; i++ {
		x.Put("a", fmt.Sprint(i))
		if n, e := x.Save(); n != i || e != api.OK {
			t.Errorf("Save: %d, %d", n, e)
		}
	}
	if n, e := x.Save(); n != 0 || e != api.ErrMuch || x.Saves() != api.MostSaves {
		t.Errorf("one more: %d, %d", n, e)
	}
	x.Put("a", "last")
	clone := x.Clone()
	for _, n := range []int{0, -1, 9, math.MaxInt} {
		if e := x.Back(n); e != api.ErrNone {
			t.Errorf("Back to %d: %d", n, e)
		}
	}
	for range 2 {
		if e := x.Back(3); e != api.OK || x.Saves() != 3 || all(t, x)["a"] != "3" {
			t.Errorf("Back: %d, %d saves, %v", e, x.Saves(), all(t, x))
		}
		x.Put("b", "other")
	}
	if e := x.Back(4); e != api.ErrNone {
		t.Errorf("Back to what is forgotten: %d", e)
	}
	if n, e := x.Save(); n != 4 || e != api.OK {
		t.Errorf("Save: %d, %d", n, e)
	}
	if clone.Saves() != 8 || all(t, clone)["a"] != "last" || clone.Back(8) != api.OK || all(t, clone)["a"] != "8" {
		t.Error("a clone is not by itself")
	}
}

func TestCloneIsByItself(t *testing.T) {
	v, _ := newVault(t, 200)
	x := New(v)
	x.Put("a", "1")
	clone := x.Clone()
	clone.Put("a", "2")
	x.Put("b", "1")
	if all(t, x)["a"] != "1" || len(all(t, clone)) != 1 {
		t.Error("a clone is not by itself")
	}
}

func TestNone(t *testing.T) {
	var none *View
	none.Put("a", "v")
	none.Del("a")
	none.Need("a", true)
	n, e := none.Save()
	if n != 0 || e != api.ErrMuch || none.Back(1) != api.ErrNone || none.Clone() != nil || none.Needs() != nil || none.Changes() != nil || none.Saves() != 0 {
		t.Error("of none something is told")
	}
	storeless := New(nil)
	storeless.Put("a", "v")
	for i, x := range []*View{none, storeless} {
		s, found, e := x.Get("a")
		l, e2 := x.Range("", "", 9)
		if s != "" || found || l != nil || e != api.ErrPower || e2 != api.ErrPower {
			t.Errorf("case %d: %q, %v, %v, %d, %d", i, s, found, l, e, e2)
		}
	}
	if len(storeless.Changes()) != 1 {
		t.Error("of no store nothing is changed")
	}
	v, d := newVault(t, 200, "a")
	x := New(v)
	x.Put("b", "v")
	d.Fail(0)
	_, _, e = x.Get("b")
	_, e2 := x.Range("", "", 9)
	if e != api.ErrPower || e2 != api.ErrPower {
		t.Errorf("without power: %d, %d", e, e2)
	}
}
