package audit

import (
	"math"
	"strings"
	"testing"

	"lodestone/api"
	"lodestone/device"
	"lodestone/disk"
	"lodestone/graph"
	"lodestone/index"
	"lodestone/record"
	"lodestone/value"
	"lodestone/vault"
	"lodestone/view"
)

func newVault(t *testing.T, cache int) (*vault.Vault, *disk.Disk) {
	t.Helper()
	d, _ := disk.New(200, nil)
	dev, e := device.New("a master key of thirty-two bytes", d)
	if e != api.OK {
		t.Fatal(e)
	}
	v, e := vault.Open(d, dev, nil, api.Setup{Log: 8, Cache: cache})
	if e != api.OK {
		t.Fatal(e)
	}
	return v, d
}

// small is a view of a graph with something of all: nodes 1, 2, 4, edges 1, 3.
func small(t *testing.T) *view.View {
	t.Helper()
	v, _ := newVault(t, 16)
	g, e := graph.Of(view.New(v))
	if e != api.OK {
		t.Fatal(e)
	}
	k := func(n int64) []api.Pair { return []api.Pair{{Name: "k", Value: value.Int(n)}} }
	for i := range int64(4) {
		g.AddNode([]string{"U", "R"}, k(i))
	}
	for range 3 {
		g.AddEdge("T", 1, 2, k(1))
	}
	g.AddIndex("U", "k", api.IndexUnique)
	g.AddIndex("R", "k", api.IndexRange)
	g.Set(false, 4, api.Pair{Name: "k", Value: api.Value{}})
	g.Drop(true, 2)
	g.Drop(false, 3)
	return g.View()
}

func TestGraphThatIsAsItMustBe(t *testing.T) {
	v, _ := newVault(t, 16)
	if got := Graph(view.New(v)); got != 0 {
		t.Errorf("an empty store: %d", got)
	}
	x := small(t)
	if got := Graph(x); got != 0 {
		t.Errorf("a small graph: %d", got)
	}
}

// thing is a thing of a view, changed.
func thing(x *view.View, edge bool, id uint64, change func(*api.Thing)) {
	s, _, _ := x.Get(record.Key(edge, id))
	t, _ := record.Get(s)
	change(&t)
	x.Put(record.Key(edge, id), record.Put(t))
}

func TestWhatIsWrong(t *testing.T) {
	one, r := index.One(0, 0, value.Int(1)), index.Key(1, 0, value.Int(1), 2)
	for i, c := range []struct {
		hurt func(x *view.View)
		want int
	}{
		{func(x *view.View) {}, 0},
		{func(x *view.View) { x.Put("zzz", "no key of a graph") }, 0},
		{func(x *view.View) { x.Del(record.Beside(true, 1, 0, 1)) }, api.AuditKeys},
		{func(x *view.View) { x.Del(record.Beside(false, 2, 0, 3)) }, api.AuditKeys},
		{func(x *view.View) { x.Put(record.Beside(true, 1, 0, 2), "") }, api.AuditKeys},
		{func(x *view.View) { x.Put(record.Beside(true, 1, 0, 1), "v") }, api.AuditKeys},
		{func(x *view.View) { x.Put("l\x10\x11\x03", "") }, api.AuditKeys},
		{func(x *view.View) { x.Del("l\x10\x11\x01") }, api.AuditKeys},
		{func(x *view.View) { x.Del(r) }, api.AuditKeys},
		{func(x *view.View) { x.Put(r, "v") }, api.AuditKeys},
		{func(x *view.View) { x.Put(index.Key(1, 0, value.Int(7), 2), "") }, api.AuditKeys},
		{func(x *view.View) { x.Del(one) }, api.AuditKeys},
		{func(x *view.View) { x.Put(one, "\x04") }, api.AuditKeys},
		{func(x *view.View) { x.Put(index.One(0, 0, value.Int(9)), "\x01") }, api.AuditKeys},
		{func(x *view.View) { x.Put("u", "") }, api.AuditKeys},
		{func(x *view.View) { x.Del("X") }, api.AuditKeys},
		{func(x *view.View) { thing(x, false, 4, func(t *api.Thing) { t.Labels = nil }) }, api.AuditKeys},
		{func(x *view.View) {
			thing(x, false, 4, func(t *api.Thing) { *t = record.With(*t, 0, value.Int(1)) })
			x.Put(index.Key(0, 0, value.Int(1), 4), "")
			x.Put(index.Key(1, 0, value.Int(1), 4), "")
		}, api.AuditOnce},
		{func(x *view.View) {
			thing(x, true, 1, func(t *api.Thing) { t.To = 3 })
			x.Del(record.Beside(false, 2, 0, 1))
			x.Put(record.Beside(false, 3, 0, 1), "")
		}, api.AuditEnds},
		{func(x *view.View) { thing(x, true, 1, func(t *api.Thing) { t.From = 9 }) }, api.AuditEnds | api.AuditKeys},
		{func(x *view.View) { x.Put("f\x00\x11\x04", "") }, api.AuditIDs},
		{func(x *view.View) { x.Put("f\x00\x11\x09", "") }, api.AuditIDs},
		{func(x *view.View) { x.Del("f\x00\x11\x03") }, api.AuditIDs},
		{func(x *view.View) { x.Del("f\x01\x11\x02") }, api.AuditIDs},
		{func(x *view.View) { x.Put("c\x00", "\x04") }, api.AuditIDs},
		{func(x *view.View) { x.Put("c\x00", "\x06") }, api.AuditIDs},
		{func(x *view.View) { x.Put("c\x01", "\xff\xff\xff\xff\xff\xff\xff\xff\xff\x01") }, api.AuditIDs},
		{func(x *view.View) { x.Del("c\x01") }, api.AuditIDs},
		{func(x *view.View) { x.Put("N", "\xff") }, api.AuditBroken},
		{func(x *view.View) { x.Put("X", "\xff") }, api.AuditBroken},
		{func(x *view.View) { x.Put("c\x00", "") }, api.AuditBroken},
		{func(x *view.View) { x.Put("f\x00x", "") }, api.AuditBroken},
		{func(x *view.View) { x.Put("nx", "") }, api.AuditBroken},
		{func(x *view.View) { x.Put(record.Key(false, 1), "\x05") }, api.AuditBroken},
		{func(x *view.View) { x.Put(record.Key(true, 1), "\x00\x00\x00") }, api.AuditBroken},
	} {
		x := small(t)
		c.hurt(x)
		if got := Graph(x); got != c.want {
			t.Errorf("case %d: %d, not %d", i, got, c.want)
		}
	}
}

func TestHeads(t *testing.T) {
	a, b := api.Head{Epoch: 5, Counter: 1, Index: 1}, api.Head{Epoch: 5, Counter: 1, Index: 2}
	elder := api.Head{Epoch: 4, Counter: 1, Index: 1}
	for i, c := range []struct {
		l     []api.Head
		epoch uint32
		turn  bool
		want  int
	}{
		{nil, 5, false, 0}, {[]api.Head{a, b}, 5, false, 0}, {[]api.Head{a, b, a}, 5, false, api.AuditNonce}, {[]api.Head{a, elder}, 5, true, 0}, {[]api.Head{a, elder}, 5, false, api.AuditEpoch},
		{[]api.Head{a}, 4, true, api.AuditEpoch}, {[]api.Head{elder, elder}, 6, true, api.AuditEpoch | api.AuditNonce},
		{[]api.Head{{Epoch: math.MaxUint32}}, 0, true, 0}, {[]api.Head{{Epoch: math.MaxUint32}}, 0, false, api.AuditEpoch}, {[]api.Head{{Epoch: 0}}, math.MaxUint32, true, api.AuditEpoch},
	} {
		if got := Heads(c.l, c.epoch, c.turn); got != c.want {
			t.Errorf("case %d: %d, not %d", i, got, c.want)
		}
	}
}

func TestVault(t *testing.T) {
	if got := Vault(nil); got != api.AuditBroken {
		t.Errorf("of none: %d", got)
	}
	v, d := newVault(t, 1)
	if got := Vault(v); got != 0 {
		t.Errorf("of an empty store: %d", got)
	}
	for _, c := range small(t).Changes() {
		if e := v.Commit([]api.Change{c}); e != api.OK {
			t.Fatal(e)
		}
	}
	v.Checkpoint()
	for range 4 {
		if got := Vault(v); got != 0 {
			t.Errorf("while a rotation goes on: %d", got)
		}
		v.Rotate()
	}
	v.Commit([]api.Change{{Key: "u", Value: "v"}})
	if got := Vault(v); got != api.AuditKeys {
		t.Errorf("of a store with a key too much: %d", got)
	}
	d.Poke(0, strings.Repeat("x", api.BlockBytes))
	d.Poke(1, strings.Repeat("x", api.BlockBytes))
	if got := Vault(v); got != api.AuditKeys|api.AuditBroken {
		t.Errorf("of a store without an anchor: %d", got)
	}
	if got := Vault(v); got != api.AuditBroken {
		t.Errorf("of a store that is broken: %d", got)
	}
	if got := Graph(nil); got != api.AuditBroken {
		t.Errorf("of no view: %d", got)
	}
}
