package world

import (
	"math"
	"math/rand"
	"reflect"
	"strings"
	"testing"

	"lodestone/api"
	"lodestone/audit"
	"lodestone/dump"
	"lodestone/value"
)

const testKey = "a master key of thirty-two bytes"

func newWorld(t *testing.T, blocks, log int) *World {
	t.Helper()
	w, e := New(api.Machine{Blocks: blocks, Setup: api.Setup{Log: log, Cache: 8}, Key: testKey})
	if e != api.OK {
		t.Fatal(e)
	}
	return w
}

// act is a session's act.
func act(who int, op api.Op) api.Act { return api.Act{What: api.ActDo, Who: who, Op: op} }

var (
	addNode = api.Op{What: api.OpAddNode, Names: []string{"A"}, Props: []api.Pair{{Name: "k", Value: value.Text("x")}}}
	commit  = api.Op{What: api.OpCommit}
	up      = api.Act{What: api.ActUp}
)

// does does an act that must come to an error, or to none.
func (w *World) does(t *testing.T, a api.Act, want api.Errno) api.Said {
	t.Helper()
	said := w.Do(a)
	if !said.OK || said.Reply.Err != want || said.Tell != api.TellDone {
		t.Fatalf("act %d: %v, not %d", a.What, said, want)
	}
	return said
}

// plain does an act that comes to nothing but whether it was one.
func (w *World) plain(t *testing.T, a api.Act, ok bool) {
	t.Helper()
	if said := w.Do(a); !reflect.DeepEqual(said, api.Said{OK: ok}) {
		t.Errorf("act %d: %v, not %v", a.What, said, ok)
	}
}

// now is the graph that was committed.
func (w *World) now(t *testing.T) api.Dump {
	t.Helper()
	g, e := w.DB().Now()
	if e != api.OK {
		t.Fatalf("Now: %d", e)
	}
	d, e := dump.Of(g)
	if e != api.OK {
		t.Fatalf("Of: %d", e)
	}
	return d
}

func TestNewErrors(t *testing.T) {
	good := api.Machine{Blocks: 100, Setup: api.Setup{Log: 8, Cache: 8}, Key: testKey}
	for i, change := range []func(m *api.Machine){
		func(m *api.Machine) { m.Blocks = 0 }, func(m *api.Machine) { m.Blocks = math.MaxInt }, func(m *api.Machine) { m.Key = "" }, func(m *api.Machine) { m.Setup.Log = 3 },
		func(m *api.Machine) { m.Setup.Cache = -1 }, func(m *api.Machine) { m.Blocks = 17 },
	} {
		m := good
		change(&m)
		if w, e := New(m); w != nil || e != api.ErrInput {
			t.Errorf("case %d: %d", i, e)
		}
	}
	w, e := New(good)
	if e != api.OK || w.Disk() == nil || w.Device() == nil || w.Book() == nil || w.DB() == nil || w.Stuck() != api.OK || w.Book().Len() == 0 {
		t.Errorf("New: %d", e)
	}
}

func TestThePowerFails(t *testing.T) {
	w := newWorld(t, 100, 8)
	if said := w.does(t, act(0, addNode), api.OK); said.Reply.ID != 1 {
		t.Errorf("%v", said)
	}
	w.does(t, act(0, commit), api.OK)
	w.does(t, act(0, addNode), api.OK)
	w.plain(t, api.Act{What: api.ActCut}, true)
	if w.Stuck() != api.ErrPower {
		t.Errorf("Stuck is %d", w.Stuck())
	}
	for _, a := range []api.Act{act(0, commit), {What: api.ActGo}, {What: api.ActCheck}, {What: api.ActTurn}} {
		w.does(t, a, api.ErrPower)
	}
	w.does(t, up, api.OK)
	if d := w.now(t); len(d.Nodes) != 1 || w.Stuck() != api.OK {
		t.Errorf("there is %v", d)
	}
	w.plain(t, api.Act{What: api.ActPlan, A: 2}, true)
	w.does(t, act(0, addNode), api.OK)
	w.does(t, act(0, commit), api.ErrPower)
	w.does(t, up, api.OK)
	if d := w.now(t); len(d.Nodes) != 1 {
		t.Errorf("there is %v", d)
	}
	w.plain(t, api.Act{What: api.ActPlan, A: 1}, true)
	w.does(t, up, api.ErrPower)
	if w.DB() != nil || w.Stuck() != api.ErrPower {
		t.Errorf("Stuck is %d", w.Stuck())
	}
	w.does(t, act(0, addNode), api.ErrPower)
	w.does(t, up, api.OK)
}

func TestSessionsAndTheStore(t *testing.T) {
	w := newWorld(t, 100, 8)
	w.does(t, act(0, addNode), api.OK)
	if said := w.Do(act(1, addNode)); !reflect.DeepEqual(said, api.Said{OK: true, Tell: api.TellWait}) {
		t.Errorf("%v", said)
	}
	w.does(t, act(0, commit), api.OK)
	if said := w.does(t, api.Act{What: api.ActGo, Who: 1}, api.OK); said.Reply.ID != 2 {
		t.Errorf("%v", said)
	}
	if said := w.Do(api.Act{What: api.ActGo, Who: 1}); !reflect.DeepEqual(said, api.Said{OK: true}) {
		t.Errorf("%v", said)
	}
	w.does(t, act(99, commit), api.ErrInput)
	w.does(t, api.Act{What: api.ActCheck}, api.OK)
	for i, want := range []bool{false, false, true} {
		if said := w.does(t, api.Act{What: api.ActTurn}, api.OK); said.Done != want {
			t.Errorf("step %d: %v", i, said)
		}
	}
	if s := w.DB().Stat(); s.Epoch != 1 || s.Turn || s.Log != 0 {
		t.Errorf("Stat is %v", s)
	}
}

func TestAnEnemyPokes(t *testing.T) {
	w := newWorld(t, 100, 8)
	for _, a := range []api.Act{
		{A: -1, S: "x"}, {A: 100, S: "x"}, {B: -1, S: "x"}, {B: 512, S: "x"}, {B: 511, S: "xy"}, {S: strings.Repeat("x", 513)}, {B: math.MaxInt, S: "x"}, {A: math.MinInt, B: math.MinInt},
	} {
		a.What = api.ActPoke
		w.plain(t, a, false)
	}
	was := w.Disk().Image()[50]
	w.plain(t, api.Act{What: api.ActPoke, A: 50, B: 509, S: "xyz"}, true)
	if got := w.Disk().Image()[50]; got != was[:509]+"xyz" {
		t.Errorf("the block is %q", got)
	}
	w.plain(t, api.Act{What: api.ActCut}, true)
	w.plain(t, api.Act{What: api.ActPoke, A: 0, B: 100, S: "x"}, true)
	w.does(t, up, api.ErrIntegrity)
	for _, a := range []api.Act{act(0, addNode), {What: api.ActGo}, {What: api.ActCheck}, {What: api.ActTurn}} {
		w.does(t, a, api.ErrIntegrity)
	}
	if w.Stuck() != api.ErrIntegrity || w.DB() != nil {
		t.Errorf("Stuck is %d", w.Stuck())
	}
}

func TestAnEnemyBringsBack(t *testing.T) {
	w := newWorld(t, 100, 8)
	for _, a := range []api.Act{{What: api.ActKeep, A: -1}, {What: api.ActKeep, A: 4}, {What: api.ActBack, A: 0, B: -1}, {What: api.ActBack, A: -1, B: 1}, {What: api.ActBack, A: 9, B: 1}} {
		w.plain(t, a, false)
	}
	w.plain(t, api.Act{What: api.ActKeep, A: 3}, true)
	w.does(t, act(0, addNode), api.OK)
	w.does(t, act(0, commit), api.OK)
	w.plain(t, api.Act{What: api.ActKeep, A: 0}, true)
	for _, b := range []int{-2, 100, math.MaxInt, math.MinInt} {
		w.plain(t, api.Act{What: api.ActBack, A: 3, B: b}, false)
	}
	w.plain(t, api.Act{What: api.ActBack, A: 3, B: 0}, true)
	w.does(t, up, api.OK)
	w.plain(t, api.Act{What: api.ActBack, A: 3, B: -1}, true)
	w.does(t, up, api.ErrIntegrity)
	w.plain(t, api.Act{What: api.ActBack, A: 0, B: 1}, true)
	w.does(t, up, api.ErrIntegrity)
	w.plain(t, api.Act{What: api.ActBack, A: 0, B: -1}, true)
	w.does(t, up, api.OK)
	if d := w.now(t); len(d.Nodes) != 1 {
		t.Errorf("there is %v", d)
	}
}

func TestNone(t *testing.T) {
	var w *World
	if w.Stuck() != api.ErrPower || w.Disk() != nil || w.Device() != nil || w.Book() != nil || w.DB() != nil || w.Do(up).OK {
		t.Error("of none something is told")
	}
	v := newWorld(t, 100, 8)
	for _, what := range []int{-1, 10, math.MaxInt} {
		v.plain(t, api.Act{What: what}, false)
	}
}

// history is what was told as done: the acts of transactions that were committed, in their order; and of those that go on.
type history struct {
	t    *testing.T
	done []noted
	open [4][]noted
	wait [4]api.Op
}

// noted is an act, and what it came to.
type noted struct {
	op    api.Op
	reply api.Reply
}

// replayed is the graph behind what was done, when it is done alone: all must be told the same.
func (h *history) replayed() api.Dump {
	h.t.Helper()
	w := newWorld(h.t, 400, 40)
	for i, was := range h.done {
		if said := w.Do(act(0, was.op)); said.Tell != api.TellDone || !reflect.DeepEqual(said.Reply, was.reply) {
			h.t.Fatalf("act %d (%v) was told %v, and alone %v", i, was.op, was.reply, said.Reply)
		}
	}
	return w.now(h.t)
}

// note notes what a session's act came to.
func (h *history) note(who int, op api.Op, said api.Said) {
	switch {
	case said.Tell == api.TellWait:
		h.wait[who] = op
	case said.Tell == api.TellAbort || op.What == api.OpAbort:
		h.open[who] = nil
	case said.Reply.Err == api.OK && op.What == api.OpCommit:
		h.done = append(append(h.done, h.open[who]...), noted{op, said.Reply})
		h.open[who] = nil
	case op.What == api.OpCommit && said.Reply.Err != api.ErrPower && said.Reply.Err != api.ErrIntegrity:
		h.open[who] = nil
	case said.Reply.Err != api.ErrPower && said.Reply.Err != api.ErrIntegrity:
		h.open[who] = append(h.open[who], noted{op, said.Reply})
	}
}

// opened looks whether a store that was opened shows all that was committed, and at most the one commit besides that was being made.
func (h *history) opened(w *World, last int) {
	h.t.Helper()
	now := w.now(h.t)
	if !dump.Same(now, h.replayed()) {
		if last < 0 {
			h.t.Fatal("what was committed is not there")
		}
		h.done = append(append(h.done, h.open[last]...), noted{op: commit})
		if !dump.Same(now, h.replayed()) {
			h.t.Fatal("neither what was nor what was to be is there")
		}
	}
	h.open = [4][]noted{}
}

// chosen is an act of a session by chance.
func chosen(chance *rand.Rand) api.Op {
	a, b := uint64(1+chance.Intn(9)), uint64(1+chance.Intn(9))
	p := []api.Pair{{Name: "k", Value: value.Int(int64(a))}}
	return []api.Op{
		{What: api.OpAddNode, Names: []string{"A"}, Props: p}, {What: api.OpAddNode, Names: []string{"B"}, Props: []api.Pair{{Name: "t", Value: value.Text(strings.Repeat("x", 40*int(b)))}}},
		{What: api.OpAddEdge, Name: "T", A: a, B: b}, {What: api.OpSet, A: a, Props: p}, {What: api.OpDrop, A: a}, {What: api.OpDrop, A: a, Edge: true}, {What: api.OpInfo, A: b}, {What: api.OpAll}, commit, commit, commit,
	}[chance.Intn(11)]
}

// TestWhateverHappens lets sessions, the power and an enemy act by chance: all that was told as done is there, or the store is told as broken.
func TestWhateverHappens(t *testing.T) {
	broken, commits := 0, 0
	for seed := range int64(24) {
		chance := rand.New(rand.NewSource(seed))
		enemy := seed%3 == 0
		w, h := newWorld(t, 130, 5), &history{t: t}
		last := -1 // whose commit the power failed at
		for range 300 {
			if w.Stuck() == api.ErrPower {
				number := w.Device().Counter()
				w.Do(up)
				if w.Device().Counter() < number || w.Device().Counter() > number+1 {
					t.Fatal("the number does not rise as it must")
				}
				if w.Stuck() == api.OK {
					h.opened(w, last)
					last = -1
				}
				continue
			}
			if w.Stuck() == api.ErrIntegrity {
				if !enemy {
					t.Fatalf("seed %d: broken without an enemy", seed)
				}
				broken++
				break
			}
			number := w.Device().Counter()
			switch n := chance.Intn(60); {
			case n == 0:
				w.Do(api.Act{What: api.ActCheck})
			case n < 6:
				w.Do(api.Act{What: api.ActTurn})
			case n < 8:
				w.Do(api.Act{What: api.ActPlan, A: 1 + chance.Intn(20), B: chance.Int()})
			case n == 8:
				w.Do(api.Act{What: api.ActCut, A: chance.Int()})
			case n == 9 || n == 11:
				w.Do(api.Act{What: api.ActKeep, A: chance.Intn(4)})
			case n == 10 && enemy:
				w.Do(api.Act{What: api.ActBack, A: chance.Intn(4), B: max(-1, chance.Intn(40)-20)})
			default:
				who := chance.Intn(4)
				op, a := chosen(chance), api.Act{What: api.ActDo, Who: who}
				if w.DB().Table().Busy(who) {
					op, a.What = h.wait[who], api.ActGo
				}
				a.Op = op
				said := w.Do(a)
				h.note(who, op, said)
				if op.What == api.OpCommit && said.Reply.Err == api.ErrPower {
					last = who
				}
				if op.What == api.OpCommit && said.Reply.Err == api.OK {
					commits++
				}
			}
			if w.Device().Counter() > number+2 {
				t.Fatal("the number rises too far")
			}
			if enemy && chance.Intn(200) == 0 {
				w.Do(api.Act{What: api.ActPoke, A: chance.Intn(130), B: chance.Intn(512), S: "x"})
			}
			if w.Stuck() == api.OK && !enemy {
				if wrong := audit.Vault(w.DB().Vault()); wrong != 0 {
					t.Fatalf("seed %d: wrong %d", seed, wrong)
				}
			}
		}
		h.replayed()
		if one, other, ok := w.Book().Twins(); ok {
			t.Errorf("twins: %q and %q", one, other)
		}
	}
	if broken < 2 || commits < 300 {
		t.Errorf("%d were broken, %d commits", broken, commits)
	}
}
