package delta

import (
	"slices"
	"testing"

	"lodestone/api"
)

// of is the changes of keys, whose values are these, too.
func of(keys ...string) *Delta {
	d := New()
	for _, key := range keys {
		d.Put(api.Change{Key: key, Value: key})
	}
	return d
}

// keys is the keys of changes.
func keys(l []api.Change) []string {
	var all []string
	for _, c := range l {
		all = append(all, c.Key)
	}
	return all
}

func TestTheLastChangeCounts(t *testing.T) {
	d := of("b", "a", "c", "")
	if d.Len() != 3 || !slices.Equal(keys(d.All()), []string{"a", "b", "c"}) {
		t.Errorf("All is %v", d.All())
	}
	d.Put(api.Change{Key: "b", Gone: true})
	if c, ok := d.Get("b"); !ok || c != (api.Change{Key: "b", Gone: true}) || d.Len() != 3 {
		t.Errorf("Get: %v, %v", c, ok)
	}
	for _, key := range []string{"", "0", "bb", "d"} {
		if c, ok := d.Get(key); ok || c != (api.Change{}) {
			t.Errorf("Get of %q: %v", key, c)
		}
	}
	d.Clear()
	if d.Len() != 0 || len(d.All()) != 0 {
		t.Error("something is left")
	}
	d.Put(api.Change{Key: "x"})
	if d.Len() != 1 {
		t.Error("nothing can be put")
	}
}

func TestRange(t *testing.T) {
	d := of("a", "b", "c", "d")
	for _, c := range []struct {
		from, to string
		want     []string
	}{
		{"", "", []string{"a", "b", "c", "d"}}, {"b", "", []string{"b", "c", "d"}}, {"b", "d", []string{"b", "c"}}, {"", "b", []string{"a"}},
		{"bb", "cc", []string{"c"}}, {"d", "b", nil}, {"b", "b", nil}, {"e", "", nil}, {"", "a", nil},
	} {
		if got := keys(d.Range(c.from, c.to)); !slices.Equal(got, c.want) {
			t.Errorf("Range from %q to %q is %q", c.from, c.to, got)
		}
	}
}

func TestWhatIsToldIsTheCallersOwn(t *testing.T) {
	d := of("a", "b")
	l := d.All()
	l[0].Key = "changed"
	d.Range("", "")[0].Value = "changed"
	other := d.Clone()
	other.Put(api.Change{Key: "a", Gone: true})
	other.Put(api.Change{Key: "c"})
	d.Put(api.Change{Key: "b", Value: "new"})
	if c, _ := d.Get("a"); c.Value != "a" || d.Len() != 2 {
		t.Error("a change is another one")
	}
	if c, _ := other.Get("b"); c.Value != "b" || other.Len() != 3 {
		t.Error("a clone's change is another one")
	}
}

func TestOver(t *testing.T) {
	entries := []api.Entry{{Key: "a", Value: "1"}, {Key: "c", Value: "2"}, {Key: "e", Value: "3"}}
	changes := []api.Change{{Key: "0", Value: "n"}, {Key: "a", Gone: true}, {Key: "b", Gone: true}, {Key: "c", Value: "x"}, {Key: "d", Value: "y"}, {Key: "f", Value: "z"}}
	want := []api.Entry{{Key: "0", Value: "n"}, {Key: "c", Value: "x"}, {Key: "d", Value: "y"}, {Key: "e", Value: "3"}, {Key: "f", Value: "z"}}
	for most := -1; most < 8; most++ {
		if got := Over(entries, changes, most); !slices.Equal(got, want[:min(max(most, 0), 5)]) {
			t.Errorf("Over of %d is %v", most, got)
		}
	}
	if got := Over(nil, changes[:1], 9); !slices.Equal(got, want[:1]) {
		t.Errorf("Over of no entries is %v", got)
	}
	if got := Over(entries, nil, 9); !slices.Equal(got, entries) {
		t.Errorf("Over of no changes is %v", got)
	}
	if Over(nil, nil, 9) != nil {
		t.Error("something is over nothing")
	}
}

func TestNone(t *testing.T) {
	var d *Delta
	d.Put(api.Change{Key: "a"})
	d.Clear()
	_, ok := d.Get("a")
	if ok || d.Range("", "") != nil || d.All() != nil || d.Len() != 0 {
		t.Error("of none something is told")
	}
	if c := d.Clone(); c == nil || c.Len() != 0 {
		t.Error("a clone of none has changes")
	} else if c.Put(api.Change{Key: "a"}); c.Len() != 1 {
		t.Error("a clone of none takes no changes")
	}
}
