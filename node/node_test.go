package node

import (
	"fmt"
	"math"
	"reflect"
	"strings"
	"testing"

	"lodestone/api"
	"lodestone/code"
)

var sum = strings.Repeat("s", api.SumBytes)

func text(n int) string { return strings.Repeat("t", n) }

func leaf(entries ...api.Entry) api.Node { return api.Node{Entries: entries} }

func inner(kids ...api.Kid) api.Node { return api.Node{Kids: kids} }

func kid(low string, place int) api.Kid {
	return api.Kid{Low: low, Ref: api.Ref{Place: place, Sum: sum}}
}

func TestForm(t *testing.T) {
	n := leaf(api.Entry{Key: "a", Value: "xy"}, api.Entry{Key: "bc"})
	if want := "L\x02\x01a\x02xy\x02bc\x00"; Put(n) != want || Size(n) != len(want) {
		t.Errorf("Put is %q", Put(n))
	}
	n = inner(kid("", 3), kid("b", 300))
	if want := "I\x02\x00\x03" + sum + "\x01b\xac\x02" + sum; Put(n) != want || Size(n) != len(want) {
		t.Errorf("Put is %q", Put(n))
	}
	if Size(api.Node{}) != 2 {
		t.Errorf("an empty node has %d bytes", Size(api.Node{}))
	}
}

func TestMay(t *testing.T) {
	for i, n := range []api.Node{
		leaf(api.Entry{Key: "a"}), leaf(api.Entry{Key: text(api.MostKey), Value: text(api.MostInline)}),
		leaf(api.Entry{Key: "a"}, api.Entry{Key: "a\x00"}), inner(kid("", 0)), inner(kid("a", api.MostBlocks-1), kid("b", 0)), inner(kid(text(api.MostKey), 1)),
	} {
		got, e := Get(Put(n))
		if !May(n) || e != api.OK || !reflect.DeepEqual(got, n) {
			t.Errorf("case %d: %v, %d", i, got, e)
		}
	}
	short := kid("a", 1)
	short.Ref.Sum = sum[1:]
	for i, n := range []api.Node{
		{}, leaf(api.Entry{}), leaf(api.Entry{Key: "b"}, api.Entry{Key: "a"}), leaf(api.Entry{Key: "a"}, api.Entry{Key: "a"}),
		leaf(api.Entry{Key: text(api.MostKey + 1)}), leaf(api.Entry{Key: "a", Value: text(api.MostInline + 1)}),
		inner(kid("b", 1), kid("a", 2)), inner(kid("a", 1), kid("a", 2)), inner(kid("a", -1)), inner(kid("a", api.MostBlocks)), inner(short),
		inner(kid(text(api.MostKey+1), 1)), inner(kid("a", math.MinInt)),
		{Entries: []api.Entry{{Key: "a"}}, Kids: []api.Kid{kid("b", 1)}},
	} {
		if May(n) || Put(n) != "" {
			t.Errorf("case %d may be", i)
		}
	}
}

func TestPutOfTheMost(t *testing.T) {
	n := leaf(api.Entry{Key: "a", Value: text(80)}, api.Entry{Key: "b", Value: text(80)}, api.Entry{Key: "c", Value: text(80)}, api.Entry{Key: "d", Value: text(80)}, api.Entry{Key: "e", Value: text(80)})
	n.Entries = append(n.Entries, api.Entry{Key: "f", Value: text(api.PlainBytes - Size(n) - 3)})
	if Size(n) != api.PlainBytes || len(Put(n)) != api.PlainBytes {
		t.Fatalf("%d bytes", Size(n))
	}
	if got, e := Get(Put(n)); e != api.OK || !reflect.DeepEqual(got, n) {
		t.Errorf("Get: %d", e)
	}
	n.Entries[5].Value += "t"
	if Size(n) != api.PlainBytes+1 || !May(n) || Put(n) != "" {
		t.Error("more than the most is put")
	}
	if got, e := Get(bytes(n)); e != api.ErrForm || !reflect.DeepEqual(got, api.Node{}) {
		t.Errorf("Get of more than the most: %d", e)
	}
}

func TestGetErrors(t *testing.T) {
	for _, whole := range []string{Put(leaf(api.Entry{Key: "a", Value: "xy"}, api.Entry{Key: "bc"})), Put(inner(kid("", 3), kid("b", 300)))} {
		for n := range len(whole) {
			if got, e := Get(whole[:n]); e != api.ErrShort || !reflect.DeepEqual(got, api.Node{}) {
				t.Errorf("Get of %d bytes: %d", n, e)
			}
		}
		if _, e := Get(whole + "x"); e != api.ErrForm {
			t.Errorf("bytes left: %d", e)
		}
	}
	for i, c := range []struct {
		s    string
		want api.Errno
	}{
		{"L\x00", api.ErrForm}, {"I\x00", api.ErrForm}, {"X\x00", api.ErrForm}, {"X", api.ErrShort}, {"X\x01", api.ErrShort}, {"X\x01\x01", api.ErrShort}, {"X\x01\x01a", api.ErrForm},
		{"L" + code.Num(api.PlainBytes+1), api.ErrForm}, {"L" + code.Num(api.PlainBytes), api.ErrShort},
		{"L\x01\x61", api.ErrForm}, {"L\x01\x60", api.ErrShort}, {"L\x01\x01a\x51", api.ErrForm}, {"L\x01\x01a\x50", api.ErrShort},
		{"I\x01\x01a" + code.Num(api.MostBlocks), api.ErrForm}, {"I\x01\x01a" + code.Num(api.MostBlocks-1), api.ErrShort},
		{"L\x02\x01b\x00\x01a\x00", api.ErrForm}, {"L\x01\x00\x00", api.ErrForm},
	} {
		if got, e := Get(c.s); e != c.want || !reflect.DeepEqual(got, api.Node{}) {
			t.Errorf("case %d: %d, not %d", i, e, c.want)
		}
	}
}

func TestFindAndBelow(t *testing.T) {
	n := leaf(api.Entry{Key: "b"}, api.Entry{Key: "d"})
	for key, want := range map[string]int{"": 0, "a": 0, "b": 0, "c": 1, "d": 1, "e": 2} {
		at, found := Find(n, key)
		if at != want || found != (key == "b" || key == "d") {
			t.Errorf("Find of %q is %d, %v", key, at, found)
		}
		if Below(n, key) != 0 {
			t.Errorf("Below of %q in entries", key)
		}
	}
	n = inner(kid("b", 1), kid("d", 2), kid("f", 3))
	for key, want := range map[string]int{"": 0, "a": 0, "b": 0, "c": 0, "d": 1, "e": 1, "f": 2, "z": 2} {
		if got := Below(n, key); got != want {
			t.Errorf("Below of %q is %d", key, got)
		}
	}
	if at, found := Find(n, "d"); at != 1 || !found {
		t.Errorf("Find among pages is %d, %v", at, found)
	}
	if at, found := Find(api.Node{}, "a"); at != 0 || found || len(Keys(api.Node{})) != 0 {
		t.Error("something is in an empty node")
	}
	if !reflect.DeepEqual(Keys(n), []string{"b", "d", "f"}) {
		t.Errorf("Keys are %q", Keys(n))
	}
}

func TestSplit(t *testing.T) {
	one := leaf(api.Entry{Key: "a", Value: "v"})
	if got := Split(one); len(got) != 1 || !reflect.DeepEqual(got[0], one) {
		t.Errorf("one entry is split into %v", got)
	}
	var even, odd, pages api.Node
	for i := range 8 {
		even.Entries = append(even.Entries, api.Entry{Key: fmt.Sprint(i), Value: text(70)})
		pages.Kids = append(pages.Kids, kid(fmt.Sprint(i)+text(60), i))
	}
	odd = leaf(api.Entry{Key: "a", Value: text(80)}, api.Entry{Key: "b"}, api.Entry{Key: "c" + text(90), Value: text(80)}, api.Entry{Key: "d" + text(90), Value: text(80)}, api.Entry{Key: "e" + text(70)})
	for i, c := range []struct {
		n  api.Node
		at int
	}{{even, 4}, {pages, 4}, {odd, 3}} {
		got := Split(c.n)
		if len(got) != 2 || len(Keys(got[0])) != c.at || !reflect.DeepEqual(Both(got[0], got[1]), c.n) {
			t.Errorf("case %d is split into %d at %d", i, len(got), len(Keys(got[0])))
			continue
		}
		greater := max(Size(got[0]), Size(got[1]))
		for at := 1; at < len(Keys(c.n)); at++ {
			other := max(Size(part(c.n, 0, at)), Size(part(c.n, at, len(Keys(c.n)))))
			if other < greater || other == greater && at < c.at {
				t.Errorf("case %d: %d is better", i, at)
			}
		}
	}
}

func TestPartsAreTheCallersOwn(t *testing.T) {
	n := leaf(api.Entry{Key: "a", Value: "v"}, api.Entry{Key: "b", Value: "v"})
	got := Split(n)
	got[0].Entries[0].Value = "changed"
	both := Both(n, leaf(api.Entry{Key: "c"}))
	both.Entries[0].Value = "changed"
	if n.Entries[0].Value != "v" {
		t.Error("what was handed in is changed")
	}
	var great api.Node
	for i := range 8 {
		great.Entries = append(great.Entries, api.Entry{Key: fmt.Sprint(i), Value: text(70)})
	}
	got = Split(great)
	_ = append(got[0].Entries, api.Entry{Key: "x"})
	if got[1].Entries[0].Key != "4" {
		t.Error("a part has room behind it")
	}
}

func TestSplitOfWhatMayNotBe(t *testing.T) {
	n := leaf(api.Entry{Key: "a", Value: text(1000)})
	if got := Split(n); len(got) != 1 || !reflect.DeepEqual(got[0], n) {
		t.Errorf("one great entry is split into %d", len(got))
	}
	mixed := api.Node{Entries: []api.Entry{{Key: "a", Value: text(400)}}, Kids: []api.Kid{kid("b", 1), kid("c", 2)}}
	if got := Split(mixed); len(got) != 2 {
		t.Errorf("a node of both kinds is split into %d", len(got))
	}
}
