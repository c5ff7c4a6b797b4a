package cursor

import (
	"fmt"
	"slices"
	"strings"
	"testing"

	"lodestone/api"
	"lodestone/device"
	"lodestone/disk"
	"lodestone/node"
	"lodestone/pager"
	"lodestone/space"
	"lodestone/tree"
)

var noRoot = api.Ref{Place: -1}

func newPager(t *testing.T, blocks int) (*pager.Pager, *disk.Disk) {
	t.Helper()
	d, _ := disk.New(blocks, nil)
	dev, e := device.New("a master key of thirty-two bytes", d)
	if e != api.OK {
		t.Fatal(e)
	}
	return pager.New(d, dev, nil, space.New(blocks, 2), 4), d
}

// grown is a tree of so many keys, the even numbers.
func grown(t *testing.T, p *pager.Pager, many int) (api.Ref, []api.Entry) {
	t.Helper()
	r, entries := noRoot, []api.Entry(nil)
	for i := range many {
		entry := api.Entry{Key: fmt.Sprintf("%03d", 2*i), Value: strings.Repeat("v", 40)}
		entries = append(entries, entry)
		var e api.Errno
		if r, e = tree.Put(p, r, entry.Key, entry.Value); e != api.OK {
			t.Fatal(e)
		}
		p.Done()
	}
	return r, entries
}

func TestIn(t *testing.T) {
	for _, c := range []struct {
		key, from, to string
		in            bool
	}{
		{"b", "a", "c", true}, {"a", "a", "c", true}, {"c", "a", "c", false}, {"a", "b", "c", false}, {"z", "a", "", true}, {"", "", "", true},
		{"b", "b", "b", false}, {"b", "c", "a", false},
	} {
		if In(c.key, c.from, c.to) != c.in {
			t.Errorf("In(%q, %q, %q) is not %v", c.key, c.from, c.to, c.in)
		}
	}
}

func TestRange(t *testing.T) {
	p, _ := newPager(t, 100)
	r, entries := grown(t, p, 120)
	for _, from := range []string{"", "000", "001", "100", "101", "238", "239", "x"} {
		for _, to := range []string{"", "000", "001", "101", "102", "239", "x"} {
			for _, most := range []int{-1, 0, 1, 7, 120, 1 << 60} {
				var want []api.Entry
				for _, entry := range entries {
					if In(entry.Key, from, to) && len(want) < most {
						want = append(want, entry)
					}
				}
				got, e := Range(p, r, from, to, most)
				if e != api.OK || !slices.Equal(got, want) {
					t.Errorf("Range from %q to %q, %d: %d entries, not %d, %d", from, to, most, len(got), len(want), e)
				}
			}
		}
	}
}

func TestNextAndLast(t *testing.T) {
	p, _ := newPager(t, 100)
	r, entries := grown(t, p, 120)
	pages, _, _ := tree.Pages(p, r)
	for _, page := range pages {
		n, _ := tree.Node(p, page)
		for _, entry := range n.Entries {
			for _, key := range []string{entry.Key, entry.Key + "x"} {
				if got, e := Last(p, r, key); got != n.Entries[len(n.Entries)-1].Key || e != api.OK {
					t.Errorf("Last of %q is %q, %d", key, got, e)
				}
			}
		}
	}
	if first, _ := Last(p, r, "000"); first == "" {
		t.Error("the first page has no last key")
	} else if got, e := Last(p, r, ""); got != first || e != api.OK {
		t.Errorf("Last of nothing is %q, %d", got, e)
	}
	for i, entry := range entries {
		if got, found, e := Next(p, r, entry.Key); got != entry || !found || e != api.OK {
			t.Errorf("Next from %q: %v, %v, %d", entry.Key, got, found, e)
		}
		got, found, e := Next(p, r, entry.Key+"\x00")
		if i+1 < len(entries) && got != entries[i+1] || found != (i+1 < len(entries)) || e != api.OK {
			t.Errorf("Next behind %q: %v, %v, %d", entry.Key, got, found, e)
		}
	}
}

func TestOfNoRoot(t *testing.T) {
	p, _ := newPager(t, 100)
	l, e := Range(p, noRoot, "", "", 9)
	entry, found, e2 := Next(p, noRoot, "")
	last, e3 := Last(p, noRoot, "")
	if l != nil || entry != (api.Entry{}) || found || last != "" || e != api.OK || e2 != api.OK || e3 != api.OK {
		t.Error("something is in an empty tree")
	}
}

func TestErrors(t *testing.T) {
	p, d := newPager(t, 100)
	r, _ := grown(t, p, 120)
	refused := func(r api.Ref, key string, want api.Errno) {
		t.Helper()
		l, e := Range(p, r, key, "", 9)
		entry, found, e2 := Next(p, r, key)
		last, e3 := Last(p, r, key)
		if l != nil || entry != (api.Entry{}) || found || last != "" || e != want || e2 != want || e3 != want {
			t.Errorf("%d, %d, %d, not %d", e, e2, e3, want)
		}
	}
	deep, _ := tree.Put(p, noRoot, "a", "v")
	for range api.MostDepth {
		deep, _ = p.Write(node.Put(api.Node{Kids: []api.Kid{{Low: "a", Ref: deep}}}))
	}
	refused(deep, "a", api.ErrIntegrity)
	pages, _, _ := tree.Pages(p, r)
	first := pages[len(pages)-1]
	d.Poke(first.Place, strings.Repeat("x", api.BlockBytes))
	for _, page := range pages[:4] {
		p.Read(page)
	}
	refused(r, "238", api.ErrIntegrity)
	if _, e := Range(p, r, "", "", 3); e != api.OK {
		t.Errorf("Range ahead of what is broken: %d", e)
	}
	d.Fail(0)
	refused(first, "238", api.ErrPower)
}
