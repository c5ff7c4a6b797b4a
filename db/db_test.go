package db

import (
	"reflect"
	"testing"

	"lodestone/api"
	"lodestone/book"
	"lodestone/device"
	"lodestone/disk"
)

// on is a store on a disk of so many blocks.
func on(t *testing.T, blocks, log int) (*DB, *disk.Disk, *device.Device) {
	t.Helper()
	d, _ := disk.New(blocks, nil)
	dev, e := device.New("a master key of thirty-two bytes", d)
	if e != api.OK {
		t.Fatal(e)
	}
	b, e := Open(d, dev, book.New(), api.Setup{Log: log, Cache: 16})
	if e != api.OK {
		t.Fatal(e)
	}
	return b, d, dev
}

func nodes(t *testing.T, b *DB) int {
	t.Helper()
	g, e := b.Now()
	if e != api.OK {
		t.Fatalf("Now: %d", e)
	}
	l, e := g.All(false)
	if e != api.OK {
		t.Fatalf("All: %d", e)
	}
	return len(l)
}

func TestStoredAndOpenedAnew(t *testing.T) {
	b, d, dev := on(t, 100, 8)
	if nodes(t, b) != 0 || b.Stuck() != api.OK || b.Vault() == nil || b.Table() == nil {
		t.Error("a new store is not empty")
	}
	add, commit := api.Op{What: api.OpAddNode, Names: []string{"A"}}, api.Op{What: api.OpCommit}
	if r, tell := b.Do(0, add); r.ID != 1 || tell != api.TellDone || nodes(t, b) != 0 {
		t.Errorf("%v, told %d, %d nodes", r, tell, nodes(t, b))
	}
	if r, tell := b.Do(1, add); r.Err != api.OK || tell != api.TellWait {
		t.Errorf("%v, told %d", r, tell)
	}
	if r, tell := b.Do(0, commit); r.Err != api.OK || tell != api.TellDone || nodes(t, b) != 1 {
		t.Errorf("%v, told %d, %d nodes", r, tell, nodes(t, b))
	}
	if r, tell := b.Step(1); r.ID != 2 || tell != api.TellDone {
		t.Errorf("%v, told %d", r, tell)
	}
	if r, tell := b.Step(1); !reflect.DeepEqual(r, api.Reply{}) || tell != api.TellNone {
		t.Errorf("%v, told %d", r, tell)
	}
	if s := b.Stat(); s.Log != 1 || s.Gen != 1 {
		t.Errorf("Stat is %v", s)
	}
	if e := b.Checkpoint(); e != api.OK || b.Stat().Log != 0 || b.Stat().Taken != 1 {
		t.Errorf("Checkpoint: %d, %v", e, b.Stat())
	}
	for i, want := range []bool{false, false, true} {
		if done, e := b.Rotate(); done != want || e != api.OK {
			t.Errorf("step %d: %v, %d", i, done, e)
		}
	}
	d.Fail(0)
	for range 2 {
		if r, tell := b.Do(0, add); !reflect.DeepEqual(r, api.Reply{Err: api.ErrPower}) || tell != api.TellDone {
			t.Errorf("%v, told %d", r, tell)
		}
		if r, tell := b.Step(1); !reflect.DeepEqual(r, api.Reply{Err: api.ErrPower}) || tell != api.TellDone {
			t.Errorf("%v, told %d", r, tell)
		}
		if g, e := b.Now(); g != nil || e != api.ErrPower || b.Stuck() != api.ErrPower || b.Checkpoint() != api.ErrPower {
			t.Errorf("without power: %d", e)
		}
		d.Up()
	}
	b, e := Open(d, dev, nil, api.Setup{Log: 8, Cache: 16})
	if e != api.OK || nodes(t, b) != 1 || b.Stat().Epoch != 1 {
		t.Errorf("Open: %d", e)
	}
}

func TestOpenErrors(t *testing.T) {
	_, d, dev := on(t, 100, 8)
	if b, e := Open(d, dev, nil, api.Setup{Log: 3}); b != nil || e != api.ErrInput {
		t.Errorf("Open: %d", e)
	}
	d.Poke(0, string(make([]byte, api.BlockBytes)))
	if b, e := Open(d, dev, nil, api.Setup{Log: 8}); b != nil || e != api.ErrIntegrity {
		t.Errorf("Open: %d", e)
	}
}

func TestNone(t *testing.T) {
	for i, b := range []*DB{nil, {}} {
		r, tell := b.Do(0, api.Op{})
		r2, tell2 := b.Step(0)
		done, e := b.Rotate()
		g, e2 := b.Now()
		power := api.Reply{Err: api.ErrPower}
		if !reflect.DeepEqual(r, power) || !reflect.DeepEqual(r2, power) || tell != api.TellDone || tell2 != api.TellDone {
			t.Errorf("case %d: %v, %v", i, r, r2)
		}
		if done || e != api.ErrPower || g != nil || e2 != api.ErrPower || b.Stuck() != api.ErrPower || b.Checkpoint() != api.ErrPower {
			t.Errorf("case %d: %d, %d", i, e, e2)
		}
		if b.Vault() != nil || b.Table() != nil || b.Stat() != (api.Stat{}) {
			t.Errorf("case %d: something is told", i)
		}
	}
}
