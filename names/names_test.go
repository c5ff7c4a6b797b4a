package names

import (
	"fmt"
	"slices"
	"strings"
	"testing"

	"lodestone/api"
	"lodestone/code"
)

func TestMay(t *testing.T) {
	for _, s := range []string{"a", "Z", "_", "a1", "_9", "abcdefghijklmnopqrst", "snake_Case_9"} {
		if !May(s) {
			t.Errorf("%q may not be", s)
		}
	}
	for _, s := range []string{"", "1", "9a", "abcdefghijklmnopqrstu", "a b", "a-b", "ä", "aä", "a\x00", "a\xff", " a", "`", "{", "@", "["} {
		if May(s) {
			t.Errorf("%q may be", s)
		}
	}
}

// full is names with so many of a kind.
func full(kind, many int) *Names {
	n := New()
	for i := range many {
		n.Give(kind, fmt.Sprint("n", i))
	}
	return n
}

func TestGive(t *testing.T) {
	n := New()
	for i, name := range []string{"a", "b", "a", "c"} {
		number, e := n.Give(api.NameKey, name)
		if want := []int{0, 1, 0, 2}[i]; number != want || e != api.OK {
			t.Errorf("Give of %q: %d, %d", name, number, e)
		}
	}
	if number, found := n.Find(api.NameKey, "b"); number != 1 || !found {
		t.Errorf("Find: %d, %v", number, found)
	}
	if number, found := n.Find(api.NameLabel, "b"); number != 0 || found {
		t.Errorf("Find of another kind: %d, %v", number, found)
	}
	if n.Name(api.NameKey, 2) != "c" || n.Name(api.NameKey, 3) != "" || n.Name(api.NameKey, -1) != "" || n.Name(api.NameType, 0) != "" || n.Name(3, 0) != "" || n.Name(-1, 0) != "" {
		t.Error("Name tells others")
	}
	if !slices.Equal(n.All(api.NameKey), []string{"a", "b", "c"}) || len(n.All(api.NameLabel)) != 0 || len(n.All(9)) != 0 {
		t.Errorf("All is %q", n.All(api.NameKey))
	}
	n.All(api.NameKey)[0] = "changed"
	if n.Name(api.NameKey, 0) != "a" {
		t.Error("All is not the caller's own")
	}
}

func TestGiveErrors(t *testing.T) {
	n := full(api.NameType, api.MostNames)
	for _, c := range []struct {
		kind   int
		name   string
		number int
		want   api.Errno
	}{
		{-1, "a", 0, api.ErrInput}, {3, "a", 0, api.ErrInput}, {api.NameType, "", 0, api.ErrInput}, {api.NameType, "1", 0, api.ErrInput},
		{api.NameType, "new", 0, api.ErrFull}, {api.NameType, "n63", 63, api.OK}, {api.NameLabel, "new", 0, api.OK},
	} {
		if number, e := n.Give(c.kind, c.name); number != c.number || e != c.want {
			t.Errorf("Give of %d, %q: %d, %d", c.kind, c.name, number, e)
		}
	}
}

func TestPutAndGet(t *testing.T) {
	n := New()
	n.Give(api.NameLabel, "A")
	n.Give(api.NameKey, "k")
	n.Give(api.NameKey, "long")
	if want := "\x01\x01A\x00\x02\x01k\x04long"; n.Put() != want {
		t.Errorf("Put is %q", n.Put())
	}
	for _, n := range []*Names{New(), n, full(0, api.MostNames), full(2, api.MostNames)} {
		got, e := Get(n.Put())
		if e != api.OK || got.Put() != n.Put() {
			t.Errorf("Get: %d", e)
		}
	}
}

func TestGetErrors(t *testing.T) {
	n := New()
	n.Give(api.NameLabel, "A")
	n.Give(api.NameKey, "k")
	whole := n.Put()
	for many := range len(whole) {
		if got, e := Get(whole[:many]); got != nil || e != api.ErrShort {
			t.Errorf("Get of %d bytes: %d", many, e)
		}
	}
	for i, s := range []string{
		whole + "x", code.Num(api.MostNames + 1), "\x01\x011\x00\x00", "\x01\x00\x00\x00", "\x02\x01a\x01a\x00\x00", "\x01\x15" + strings.Repeat("a", 21) + "\x00\x00",
		"\x02\x011", "\x00\x00\x00\x00",
	} {
		if got, e := Get(s); got != nil || e != api.ErrForm {
			t.Errorf("case %d: %d", i, e)
		}
	}
	if got, e := Get("\x01\x01a\x01\x01a\x01\x01a"); e != api.OK || got.Name(api.NameType, 0) != "a" {
		t.Errorf("one name of each kind: %d", e)
	}
}

func TestClone(t *testing.T) {
	n := full(api.NameLabel, 3)
	clone := n.Clone()
	n.Give(api.NameLabel, "x")
	clone.Give(api.NameLabel, "y")
	if n.Name(0, 3) != "x" || clone.Name(0, 3) != "y" || clone.Name(0, 2) != "n2" {
		t.Error("a clone is not by itself")
	}
}

func TestNone(t *testing.T) {
	var n *Names
	number, found := n.Find(0, "a")
	given, e := n.Give(0, "a")
	if number != 0 || found || given != 0 || e != api.ErrInput || n.Name(0, 0) != "" || n.All(0) != nil || n.Put() != New().Put() {
		t.Error("of none something is told")
	}
	if clone := n.Clone(); clone.Put() != "\x00\x00\x00" {
		t.Error("a clone of none has names")
	} else if number, e := clone.Give(0, "a"); number != 0 || e != api.OK {
		t.Error("a clone of none takes no name")
	}
}
