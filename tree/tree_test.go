package tree

import (
	"fmt"
	"maps"
	"math/rand"
	"slices"
	"strings"
	"testing"

	"lodestone/api"
	"lodestone/book"
	"lodestone/device"
	"lodestone/disk"
	"lodestone/node"
	"lodestone/pager"
	"lodestone/space"
)

var noRoot = api.Ref{Place: -1}

func newPager(t *testing.T, blocks int) (*pager.Pager, *disk.Disk) {
	t.Helper()
	d, _ := disk.New(blocks, nil)
	dev, e := device.New("a master key of thirty-two bytes", d)
	if e != api.OK {
		t.Fatal(e)
	}
	return pager.New(d, dev, book.New(), space.New(blocks, 2), 64), d
}

// put is the root behind a key's value, where that must be.
func put(t *testing.T, p *pager.Pager, r api.Ref, key, value string) api.Ref {
	t.Helper()
	r, e := Put(p, r, key, value)
	if e != api.OK {
		t.Fatalf("Put: %d", e)
	}
	return r
}

// shape looks whether a tree is as it must be: how deep its entries are, and its keys.
func shape(t *testing.T, p *pager.Pager, r api.Ref, low string) (int, []string) {
	t.Helper()
	n, e := Node(p, r)
	if e != api.OK {
		t.Fatalf("Node: %d", e)
	}
	if keys := node.Keys(n); keys[0] < low {
		t.Errorf("%q is below %q", keys[0], low)
	}
	deep, all := 0, []string(nil)
	for _, entry := range n.Entries {
		all = append(all, entry.Key)
	}
	for i, kid := range n.Kids {
		d, keys := shape(t, p, kid.Ref, kid.Low)
		if i > 0 && d != deep {
			t.Errorf("entries are %d and %d deep", deep, d)
		}
		deep, all = d, append(all, keys...)
	}
	if !slices.IsSorted(all) {
		t.Error("keys do not rise")
	}
	return deep + 1, all
}

// same looks whether a tree has just what a map has, and takes no other places.
func same(t *testing.T, p *pager.Pager, r api.Ref, want map[string]string) {
	t.Helper()
	pages, entries, e := Pages(p, r)
	if e != api.OK {
		t.Fatalf("Pages: %d", e)
	}
	got := map[string]string{}
	for _, entry := range entries {
		got[entry.Key] = entry.Value
	}
	if !maps.Equal(got, want) || len(entries) != len(want) {
		t.Fatalf("%d entries, not %d", len(entries), len(want))
	}
	if many := p.Space().Many(); many != len(pages) {
		t.Fatalf("%d places are taken for %d pages", many, len(pages))
	}
	if len(want) == 0 {
		if r != noRoot {
			t.Fatalf("an empty tree has the root %v", r)
		}
		return
	}
	if pages[0] != r {
		t.Error("the first page is not the root")
	}
	deep, _ := shape(t, p, r, "")
	if n, _ := Node(p, r); deep > api.MostDepth || len(n.Kids) == 1 {
		t.Errorf("%d deep, %d pages below the root", deep, len(n.Kids))
	}
}

func TestManyChanges(t *testing.T) {
	p, _ := newPager(t, 1000)
	chance := rand.New(rand.NewSource(1))
	r, want := noRoot, map[string]string{}
	for i := range 3000 {
		key := fmt.Sprint("k", chance.Intn(300))
		if chance.Intn(9) == 0 {
			key += strings.Repeat("x", chance.Intn(90))
		}
		var e api.Errno
		var found bool
		_, there := want[key]
		if grow := i < 1000 || i > 1800 && i < 2200; chance.Intn(10) < 3 == grow {
			if r, found, e = Del(p, r, key); e != api.OK || found != there {
				t.Fatalf("Del: %v, %d", found, e)
			}
			delete(want, key)
		} else {
			value := strings.Repeat("v", chance.Intn(api.MostInline+1))
			r = put(t, p, r, key, value)
			want[key] = value
		}
		p.Done()
		if i%50 == 0 {
			same(t, p, r, want)
		}
	}
	for key, value := range want {
		if got, found, e := Get(p, r, key); got != value || !found || e != api.OK {
			t.Errorf("Get: %q, %v, %d", got, found, e)
		}
		if got, found, e := Get(p, r, key+"\x00"); got != "" || found || e != api.OK {
			t.Errorf("Get of none: %q, %v, %d", got, found, e)
		}
	}
	for _, key := range slices.Sorted(maps.Keys(want)) {
		if again, e := Again(p, r, key); e != api.OK || again == r {
			t.Errorf("Again: %v, %d", again, e)
		} else {
			r = again
		}
		p.Done()
		same(t, p, r, want)
	}
	for _, key := range slices.Sorted(maps.Keys(want)) {
		r, _, _ = Del(p, r, key)
		delete(want, key)
		p.Done()
	}
	same(t, p, r, want)
}

func TestFirstEntry(t *testing.T) {
	p, _ := newPager(t, 20)
	r := put(t, p, noRoot, "a", "v")
	n, e := Node(p, r)
	if e != api.OK || len(n.Entries) != 1 || n.Entries[0] != (api.Entry{Key: "a", Value: "v"}) {
		t.Errorf("Node: %v, %d", n, e)
	}
	same(t, p, r, map[string]string{"a": "v"})
	r = put(t, p, r, "a", "other")
	p.Done()
	same(t, p, r, map[string]string{"a": "other"})
	r, found, e := Del(p, r, "a")
	p.Done()
	if r != noRoot || !found || e != api.OK || p.Space().Many() != 0 {
		t.Errorf("Del: %v, %v, %d", r, found, e)
	}
}

func TestPagesAreSplitAndPutTogether(t *testing.T) {
	p, _ := newPager(t, 40)
	r := noRoot
	for i := range 5 {
		r = put(t, p, r, fmt.Sprint(i), strings.Repeat("v", 80))
	}
	if n, _ := Node(p, r); len(n.Entries) != 5 {
		t.Fatalf("five entries are %d", len(n.Entries))
	}
	r = put(t, p, r, "5", strings.Repeat("v", 80))
	n, _ := Node(p, r)
	if len(n.Kids) != 2 || n.Kids[0].Low != "0" || n.Kids[1].Low != "3" {
		t.Fatalf("six entries are %v", n)
	}
	// Of two pages of three entries each none has few bytes, till one of them has one entry.
	r, _, _ = Del(p, r, "0")
	if n, _ := Node(p, r); len(n.Kids) != 2 || n.Kids[0].Low != "1" {
		t.Fatalf("five entries are %v", n)
	}
	r, _, _ = Del(p, r, "4")
	if n, _ := Node(p, r); len(n.Kids) != 2 {
		t.Fatalf("four entries are %v", n)
	}
	r, _, _ = Del(p, r, "5")
	if n, _ := Node(p, r); len(n.Entries) != 3 {
		t.Fatalf("three entries are %v", n)
	}
	// What is written over with less is put together as well.
	for i := range 6 {
		r = put(t, p, r, fmt.Sprint(i), strings.Repeat("v", 80))
	}
	for i := range 3 {
		r = put(t, p, r, fmt.Sprint(i), "")
	}
	if n, _ := Node(p, r); len(n.Entries) != 6 {
		t.Fatalf("six entries are %v", n)
	}
	p.Done()
	if p.Space().Many() != 1 {
		t.Errorf("%d places are taken", p.Space().Many())
	}
}

func TestLowIsBelowAllThatComes(t *testing.T) {
	p, _ := newPager(t, 100)
	r, want := noRoot, map[string]string{}
	for i := 99; i > 0; i-- {
		key := fmt.Sprintf("%02d", i)
		r = put(t, p, r, key, strings.Repeat("v", 60))
		want[key] = strings.Repeat("v", 60)
	}
	p.Done()
	same(t, p, r, want)
}

func TestAgainLaysAnewWhatIsAbove(t *testing.T) {
	p, _ := newPager(t, 100)
	r := noRoot
	for i := range 60 {
		r = put(t, p, r, fmt.Sprintf("%02d", i), strings.Repeat("v", 70))
	}
	p.Done()
	before, entries, _ := Pages(p, r)
	deep, _ := shape(t, p, r, "")
	r, e := Again(p, r, "30x")
	if e != api.OK {
		t.Fatal(e)
	}
	after, same, _ := Pages(p, r)
	fresh := 0
	for _, ref := range after {
		if !slices.Contains(before, ref) {
			fresh++
		}
	}
	if fresh != deep || len(after) != len(before) || !slices.Equal(entries, same) {
		t.Errorf("%d of %d pages are laid anew, %d deep", fresh, len(after), deep)
	}
	if r, e := Again(p, noRoot, "a"); r != noRoot || e != api.OK {
		t.Errorf("Again of no root: %v, %d", r, e)
	}
}

func TestErrInput(t *testing.T) {
	p, _ := newPager(t, 20)
	r := put(t, p, noRoot, strings.Repeat("k", api.MostKey), strings.Repeat("v", api.MostInline))
	refused := func(p *pager.Pager, key, value string) {
		t.Helper()
		if got, e := Put(p, r, key, value); got != r || e != api.ErrInput {
			t.Errorf("Put: %v, %d", got, e)
		}
	}
	refused(nil, "a", "v")
	refused(p, "", "v")
	refused(p, strings.Repeat("k", api.MostKey+1), "v")
	refused(p, "a", strings.Repeat("v", api.MostInline+1))
	if got, found, e := Del(p, r, "b"); got != r || found || e != api.OK {
		t.Errorf("Del of none: %v, %v, %d", got, found, e)
	}
	if got, found, e := Del(p, noRoot, "b"); got != noRoot || found || e != api.OK {
		t.Errorf("Del of no root: %v, %v, %d", got, found, e)
	}
	if got, found, e := Get(p, noRoot, "b"); got != "" || found || e != api.OK {
		t.Errorf("Get of no root: %q, %v, %d", got, found, e)
	}
	if pages, entries, e := Pages(p, noRoot); pages != nil || entries != nil || e != api.OK {
		t.Errorf("Pages of no root: %d", e)
	}
	if _, _, e := Get(nil, r, "a"); e != api.ErrInput {
		t.Errorf("Get of no pager: %d", e)
	}
}

func TestWithAnErrorTheRootThatWas(t *testing.T) {
	p, d := newPager(t, 12)
	r, i := noRoot, 0
	for ; ; i++ {
		next, e := Put(p, r, fmt.Sprintf("%02d", i), strings.Repeat("v", 80))
		if e == api.ErrFull {
			if next != r {
				t.Error("another root than the one that was handed in")
			}
			break
		}
		if e != api.OK {
			t.Fatal(e)
		}
		r = next
		p.Done()
	}
	p.Undo()
	pages, entries, e := Pages(p, r)
	if e != api.OK || len(entries) != i || p.Space().Many() != len(pages) {
		t.Errorf("%d entries of %d, %d, %d places for %d pages", len(entries), i, e, p.Space().Many(), len(pages))
	}
	d.Fail(0)
	if got, e := Put(p, r, "00", ""); got != r || e != api.ErrPower {
		t.Errorf("Put: %v, %d", got, e)
	}
	if got, found, e := Del(p, r, "00"); got != r || found || e != api.ErrPower {
		t.Errorf("Del: %v, %v, %d", got, found, e)
	}
	if got, e := Again(p, r, "00"); got != r || e != api.ErrPower {
		t.Errorf("Again: %v, %d", got, e)
	}
}

func TestNoNode(t *testing.T) {
	p, _ := newPager(t, 40)
	r, _ := p.Write("no node")
	if n, e := Node(p, r); len(node.Keys(n)) != 0 || e != api.ErrIntegrity {
		t.Errorf("Node: %d", e)
	}
	if _, e := Node(p, noRoot); e != api.ErrInput {
		t.Errorf("Node of none: %d", e)
	}
	refused := func(r api.Ref) {
		t.Helper()
		_, _, e := Get(p, r, "a")
		after, e2 := Put(p, r, "a", "v")
		_, _, e3 := Del(p, r, "a")
		_, e4 := Again(p, r, "a")
		pages, entries, e5 := Pages(p, r)
		for i, e := range []api.Errno{e, e2, e3, e4, e5} {
			if e != api.ErrIntegrity {
				t.Errorf("call %d: %d", i, e)
			}
		}
		if after != r || pages != nil || entries != nil {
			t.Error("something is told with an error")
		}
	}
	refused(r)
	r = put(t, p, noRoot, "a", "v")
	for range api.MostDepth - 1 {
		r, _ = p.Write(node.Put(api.Node{Kids: []api.Kid{{Low: "a", Ref: r}}}))
	}
	if got, found, e := Get(p, r, "a"); got != "v" || !found || e != api.OK {
		t.Errorf("Get of the deepest: %q, %v, %d", got, found, e)
	}
	r, _ = p.Write(node.Put(api.Node{Kids: []api.Kid{{Low: "a", Ref: r}}}))
	refused(r)
}
