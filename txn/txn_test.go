package txn

import (
	"fmt"
	"math"
	"math/rand"
	"reflect"
	"slices"
	"strings"
	"testing"

	"lodestone/api"
	"lodestone/device"
	"lodestone/disk"
	"lodestone/value"
	"lodestone/vault"
	"lodestone/view"
)

func newVault(t *testing.T, blocks, log int) (*vault.Vault, *disk.Disk) {
	t.Helper()
	d, _ := disk.New(blocks, nil)
	dev, e := device.New("a master key of thirty-two bytes", d)
	if e != api.OK {
		t.Fatal(e)
	}
	v, e := vault.Open(d, dev, nil, api.Setup{Log: log, Cache: 64})
	if e != api.OK {
		t.Fatal(e)
	}
	return v, d
}

func newTable(t *testing.T) *Table {
	t.Helper()
	v, _ := newVault(t, 600, 40)
	return New(v)
}

func pair(name string, n int64) api.Pair { return api.Pair{Name: name, Value: value.Int(n)} }

func addNode(labels string, props ...api.Pair) api.Op {
	return api.Op{What: api.OpAddNode, Names: strings.Fields(labels), Props: props}
}

func addEdge(typ string, from, to uint64) api.Op {
	return api.Op{What: api.OpAddEdge, Name: typ, A: from, B: to}
}

func info(id uint64) api.Op { return api.Op{What: api.OpInfo, A: id} }

func set(id uint64, p api.Pair) api.Op {
	return api.Op{What: api.OpSet, A: id, Props: []api.Pair{p}}
}

var (
	commit = api.Op{What: api.OpCommit}
	abort  = api.Op{What: api.OpAbort}
)

// ok does an act that must be done, and is told what it comes to.
func (t *Table) ok(test *testing.T, who int, op api.Op) api.Reply {
	test.Helper()
	r, tell := t.Do(who, op)
	if r.Err != api.OK || tell != api.TellDone {
		test.Fatalf("session %d, act %d: %d, told %d", who, op.What, r.Err, tell)
	}
	return r
}

// is tells what an act must come to.
func is(test *testing.T, r api.Reply, tell int, e api.Errno, want int) {
	test.Helper()
	if !reflect.DeepEqual(r, api.Reply{Err: e}) || tell != want {
		test.Errorf("%v, told %d, not %d, told %d", r, tell, e, want)
	}
}

// says does an act that must come to an error, or must wait.
func (t *Table) says(test *testing.T, who int, op api.Op, e api.Errno, want int) {
	test.Helper()
	r, tell := t.Do(who, op)
	is(test, r, tell, e, want)
}

func TestCommitAndAbort(test *testing.T) {
	t := newTable(test)
	if t.Open(0) || t.Age(0) != 0 || t.Ends() != nil {
		test.Error("a session has a transaction")
	}
	if r := t.ok(test, 0, addNode("A", pair("k", 5))); r.ID != 1 {
		test.Errorf("the reply is %v", r)
	}
	if !t.Open(0) || t.Age(0) != 1 || t.Held(0) != 4 || t.Locks() != 4 || t.Busy(0) {
		test.Errorf("age %d, holds %d", t.Age(0), t.Held(0))
	}
	if r := t.ok(test, 0, commit); !reflect.DeepEqual(r, api.Reply{}) {
		test.Errorf("the reply is %v", r)
	}
	if t.Open(0) || t.Age(0) != 0 || t.Held(0) != 0 || t.Locks() != 0 {
		test.Error("the transaction is not over")
	}
	want := []api.Info{{ID: 1, Labels: []string{"A"}, Props: []api.Pair{pair("k", 5)}}}
	if r := t.ok(test, 3, info(1)); !reflect.DeepEqual(r, api.Reply{Infos: want}) || t.Age(3) != 2 {
		test.Errorf("the reply is %v, age %d", r, t.Age(3))
	}
	t.ok(test, 3, commit)
	t.ok(test, 2, addNode("B"))
	t.ok(test, 2, abort)
	t.says(test, 2, info(2), api.ErrNone, api.TellDone)
	t.ok(test, 2, abort)
	if ends := t.Ends(); !slices.Equal(ends, []int{0, 3}) || len(t.Ends()) != 0 {
		test.Errorf("ends are %v", ends)
	}
}

func TestAllActs(test *testing.T) {
	t := newTable(test)
	a, b := t.ok(test, 0, addNode("P", pair("k", 5))).ID, t.ok(test, 0, addNode("P Q")).ID
	e := t.ok(test, 0, api.Op{What: api.OpAddEdge, Name: "T", A: a, B: b, Props: []api.Pair{pair("y", 1)}}).ID
	t.ok(test, 0, set(b, pair("k", 7)))
	t.ok(test, 0, api.Op{What: api.OpSet, Edge: true, A: e, Props: []api.Pair{pair("y", 2), pair("z", 3)}})
	t.ok(test, 0, api.Op{What: api.OpLabel, A: a, Name: "Q", Yes: true})
	t.ok(test, 0, api.Op{What: api.OpLabel, A: b, Name: "Q"})
	t.ok(test, 0, api.Op{What: api.OpAddIndex, Name: "P", Props: []api.Pair{pair("k", 0)}, B: api.IndexUnique})
	edge := api.Info{ID: 1, Edge: true, Type: "T", From: 1, To: 2, Props: []api.Pair{pair("y", 2)}}
	for i, c := range []struct {
		op   api.Op
		want api.Reply
	}{
		{api.Op{What: api.OpInfo, Edge: true, A: e}, api.Reply{Infos: []api.Info{edge}}},
		{api.Op{What: api.OpBeside, A: a, Yes: true}, api.Reply{Infos: []api.Info{edge}}},
		{api.Op{What: api.OpBeside, A: b, Name: "T"}, api.Reply{Infos: []api.Info{edge}}},
		{api.Op{What: api.OpBeside, A: b, Yes: true, Name: "T"}, api.Reply{}},
		{api.Op{What: api.OpLabelled, Name: "P"}, api.Reply{IDs: []uint64{1, 2}}},
		{api.Op{What: api.OpLabelled, Name: "Q"}, api.Reply{IDs: []uint64{1}}},
		{api.Op{What: api.OpBetween, Name: "P", Props: []api.Pair{pair("k", 6), {Name: "k"}}}, api.Reply{IDs: []uint64{2}}},
		{api.Op{What: api.OpBetween, Name: "P", Props: []api.Pair{pair("k", 6)}}, api.Reply{Err: api.ErrInput}},
		{api.Op{What: api.OpBetween, Name: "P", Props: []api.Pair{pair("k", 6), pair("j", 7)}}, api.Reply{Err: api.ErrInput}},
		{api.Op{What: api.OpBetween, Name: "P", Props: []api.Pair{pair("j", 6), pair("j", 7)}}, api.Reply{Err: api.ErrNone}},
		{api.Op{What: api.OpAsk, Name: "find (a:P) tell a, a.k"}, api.Reply{Rows: [][]api.Value{{value.Int(1), value.Int(5)}, {value.Int(2), value.Int(7)}}}},
		{api.Op{What: api.OpAsk, Name: "find (a:P tell a"}, api.Reply{Err: api.ErrGrammar}},
		{api.Op{What: api.OpAsk, Name: "!"}, api.Reply{Err: api.ErrWord}},
		{api.Op{What: api.OpAsk, Name: strings.Repeat(" ", 1001)}, api.Reply{Err: api.ErrMuch}},
		{api.Op{What: api.OpAll}, api.Reply{IDs: []uint64{1, 2}}},
		{api.Op{What: api.OpAll, Edge: true}, api.Reply{IDs: []uint64{1}}},
		{api.Op{What: api.OpWalk, A: a, B: math.MaxUint64, Yes: true}, api.Reply{IDs: []uint64{1, 2}}},
		{api.Op{What: api.OpWalk, A: a, B: 5}, api.Reply{IDs: []uint64{1}}},
		{api.Op{What: api.OpWalk, A: a, B: 5, Yes: true, Name: "U"}, api.Reply{IDs: []uint64{1}}},
		{api.Op{What: api.OpWalk, A: 9}, api.Reply{Err: api.ErrNone}},
		{api.Op{What: api.OpSet, A: a}, api.Reply{Err: api.ErrInput}},
		{api.Op{What: api.OpAddIndex, Name: "P", Props: []api.Pair{pair("j", 0)}, B: math.MaxUint64}, api.Reply{Err: api.ErrInput}},
		{api.Op{What: api.OpAddIndex, Name: "P", B: 1}, api.Reply{Err: api.ErrInput}},
		{api.Op{What: api.OpDrop, A: a}, api.Reply{Err: api.ErrUsed}},
		{api.Op{What: api.OpDropIndex, Name: "P", Props: []api.Pair{pair("k", 0)}}, api.Reply{}},
		{api.Op{What: api.OpDropIndex, Name: "P"}, api.Reply{Err: api.ErrNone}},
		{api.Op{What: api.OpSave}, api.Reply{ID: 1}},
		{api.Op{What: api.OpDrop, Edge: true, A: e}, api.Reply{}},
		{api.Op{What: api.OpDrop, A: b}, api.Reply{}},
		{api.Op{What: api.OpInfo, A: b}, api.Reply{Err: api.ErrNone}},
		{api.Op{What: api.OpSave}, api.Reply{ID: 2}},
		{api.Op{What: api.OpBack, A: 3}, api.Reply{Err: api.ErrNone}},
		{api.Op{What: api.OpBack, A: 0}, api.Reply{Err: api.ErrNone}},
		{api.Op{What: api.OpBack, A: math.MaxUint64}, api.Reply{Err: api.ErrNone}},
		{api.Op{What: api.OpBack, A: 1}, api.Reply{}},
		{api.Op{What: api.OpAll}, api.Reply{IDs: []uint64{1, 2}}},
		{api.Op{What: -1}, api.Reply{Err: api.ErrInput}}, {api.Op{What: 18}, api.Reply{Err: api.ErrInput}},
	} {
		r, tell := t.Do(0, c.op)
		if !reflect.DeepEqual(r, c.want) || tell != api.TellDone {
			test.Errorf("case %d: %v, told %d, not %v", i, r, tell, c.want)
		}
	}
	for i := 2; i <= api.MostSaves; i++ {
		t.ok(test, 0, api.Op{What: api.OpSave})
	}
	t.says(test, 0, api.Op{What: api.OpSave}, api.ErrMuch, api.TellDone)
}

func TestExec(test *testing.T) {
	v, _ := newVault(test, 100, 8)
	x := view.New(v)
	if r := Exec(x, addNode("A")); r.ID != 1 || r.Err != api.OK || len(x.Needs()) != 4 {
		test.Errorf("the reply is %v, needs are %v", r, x.Needs())
	}
	for _, what := range []int{api.OpCommit, api.OpAbort, -1, 18, math.MaxInt} {
		if r := Exec(x, api.Op{What: what}); r.Err != api.ErrInput {
			test.Errorf("act %d: %v", what, r)
		}
	}
	for what, want := range map[int]api.Errno{api.OpSave: api.ErrMuch, api.OpBack: api.ErrNone, api.OpAll: api.ErrPower, api.OpAddNode: api.ErrPower} {
		if r := Exec(nil, api.Op{What: what}); !reflect.DeepEqual(r, api.Reply{Err: want}) {
			test.Errorf("of none: %v", r)
		}
	}
}

func TestWaiting(test *testing.T) {
	t := newTable(test)
	t.ok(test, 0, addNode("A"))
	t.ok(test, 0, addNode("A"))
	t.ok(test, 0, commit)
	t.ok(test, 0, set(1, pair("k", 1)))
	t.says(test, 1, info(1), api.OK, api.TellWait)
	if !t.Busy(1) || !slices.Equal(t.For(1), []int{0}) || len(t.For(0)) != 0 {
		test.Errorf("it waits for %v", t.For(1))
	}
	t.says(test, 1, info(2), api.ErrBusy, api.TellDone)
	t.says(test, 1, commit, api.ErrBusy, api.TellDone)
	r, tell := t.Step(1)
	is(test, r, tell, api.OK, api.TellWait)
	t.ok(test, 0, commit)
	if !t.Busy(1) {
		test.Error("it does not wait any more")
	}
	r, tell = t.Step(1)
	if tell != api.TellDone || len(r.Infos) != 1 || !slices.Equal(r.Infos[0].Props, []api.Pair{pair("k", 1)}) || t.Busy(1) || len(t.For(1)) != 0 {
		test.Errorf("%v, told %d", r, tell)
	}
	r, tell = t.Step(1)
	is(test, r, tell, api.OK, api.TellNone)
	t.ok(test, 2, info(1))
	t.says(test, 1, set(1, pair("k", 2)), api.OK, api.TellWait)
	t.ok(test, 2, abort)
	r, tell = t.Step(1)
	is(test, r, tell, api.OK, api.TellDone)
}

func TestWhatWaitsIsKept(test *testing.T) {
	t := newTable(test)
	t.ok(test, 0, addNode("A"))
	op := addNode("A", pair("k", 1))
	t.says(test, 1, op, api.OK, api.TellWait)
	op.Names[0], op.Props[0] = "B", pair("j", 2)
	t.ok(test, 0, commit)
	if r, tell := t.Step(1); r.ID != 2 || tell != api.TellDone {
		test.Errorf("%v, told %d", r, tell)
	}
	if r := t.ok(test, 1, info(2)); r.Infos[0].Labels[0] != "A" || r.Infos[0].Props[0] != pair("k", 1) {
		test.Errorf("the reply is %v", r)
	}
}

func TestDeadlock(test *testing.T) {
	for _, last := range []int{0, 1} {
		t := newTable(test)
		t.ok(test, 5, addNode("", pair("k", 0)))
		t.ok(test, 5, addNode("", pair("k", 0)))
		t.ok(test, 5, commit)
		t.ok(test, 0, set(1, pair("k", 1)))
		t.ok(test, 1, set(2, pair("k", 1)))
		other := 1 - last
		t.says(test, other, info(uint64(last+1)), api.OK, api.TellWait)
		r, tell := t.Do(last, info(uint64(other+1)))
		if last == 1 {
			is(test, r, tell, api.ErrDeadlock, api.TellAbort)
		} else {
			if r.Err != api.OK || tell != api.TellDone || len(r.Infos) != 1 {
				test.Errorf("the elder: %v, told %d", r, tell)
			}
			if t.Open(1) || t.Busy(1) || t.Age(1) != 0 || t.Held(1) != 0 || len(t.For(1)) != 0 {
				test.Error("the younger is not given up")
			}
			r, tell = t.Do(1, addNode("never"))
			is(test, r, tell, api.ErrDeadlock, api.TellAbort)
			if t.Open(1) {
				test.Error("the act was done")
			}
		}
		r, tell = t.Step(1)
		is(test, r, tell, api.OK, api.TellNone)
		if last == 1 {
			r, tell = t.Step(0)
			if r.Err != api.OK || tell != api.TellDone {
				test.Errorf("the elder: %v, told %d", r, tell)
			}
		}
		t.ok(test, 1, api.Op{What: api.OpSave})
		t.ok(test, 0, commit)
		if r := t.ok(test, 1, info(2)); r.Infos[0].Props[0] != pair("k", 0) {
			test.Errorf("what was given up is there: %v", r)
		}
		if ends := t.Ends(); !slices.Equal(ends, []int{5, 0}) {
			test.Errorf("ends are %v", ends)
		}
	}
}

func TestDeadlockToldByStep(test *testing.T) {
	t := newTable(test)
	t.ok(test, 5, addNode("", pair("k", 0)))
	t.ok(test, 5, addNode("", pair("k", 0)))
	t.ok(test, 5, commit)
	t.ok(test, 0, set(1, pair("k", 1)))
	t.ok(test, 1, set(2, pair("k", 1)))
	t.says(test, 1, info(1), api.OK, api.TellWait)
	t.ok(test, 0, info(2))
	r, tell := t.Step(1)
	is(test, r, tell, api.ErrDeadlock, api.TellAbort)
	r, tell = t.Step(1)
	is(test, r, tell, api.OK, api.TellNone)
}

func TestErrors(test *testing.T) {
	t := newTable(test)
	for _, who := range []int{-1, api.MostSessions, math.MaxInt, math.MinInt} {
		t.says(test, who, commit, api.ErrInput, api.TellDone)
		r, tell := t.Step(who)
		is(test, r, tell, api.OK, api.TellNone)
		if t.Busy(who) || t.Open(who) || t.Age(who) != 0 || t.Held(who) != 0 || t.For(who) != nil {
			test.Errorf("%d is a session", who)
		}
	}
	var none *Table
	none.says(test, 0, commit, api.ErrInput, api.TellDone)
	r, tell := none.Step(0)
	is(test, r, tell, api.OK, api.TellNone)
	if none.Busy(0) || none.Open(0) || none.Age(0) != 0 || none.Ends() != nil || none.Locks() != 0 || none.Held(0) != 0 || none.For(0) != nil {
		test.Error("of none something is told")
	}
	storeless := New(nil)
	storeless.says(test, 0, addNode("A"), api.ErrPower, api.TellDone)
	if storeless.Held(0) != 0 {
		test.Error("something is held")
	}
	storeless.ok(test, 0, commit)
}

func TestTooMuchIsHeld(test *testing.T) {
	t := newTable(test)
	for i := range uint64(api.MostHeld - 1) {
		t.says(test, 0, info(1000+i), api.ErrNone, api.TellDone)
	}
	t.says(test, 1, addNode("A"), api.OK, api.TellWait)
	t.ok(test, 2, api.Op{What: api.OpSave})
	if t.Held(0) != api.MostHeld {
		test.Errorf("%d are held", t.Held(0))
	}
	t.says(test, 0, info(1), api.ErrMuch, api.TellDone)
	t.says(test, 0, info(1000), api.ErrNone, api.TellDone)
	if !t.Open(0) || t.Held(0) != api.MostHeld {
		test.Error("the transaction is over")
	}
	t.ok(test, 0, commit)
}

func TestCommitOfTooMuch(test *testing.T) {
	t := newTable(test)
	for range 140 {
		t.ok(test, 0, addNode(""))
	}
	t.ok(test, 0, addNode("A", pair("k", 1)))
	t.says(test, 0, api.Op{What: api.OpAddIndex, Name: "A"}, api.ErrInput, api.TellDone)
	for range 110 {
		t.ok(test, 0, addNode("A"))
	}
	t.says(test, 0, commit, api.ErrMuch, api.TellDone)
	if t.Open(0) || t.Locks() != 0 || len(t.Ends()) != 0 {
		test.Error("the transaction is not over")
	}
	t.says(test, 0, info(1), api.ErrNone, api.TellDone)
}

func TestCommitWithoutRoom(test *testing.T) {
	v, _ := newVault(test, 2+4+8, 4)
	t := New(v)
	t.ok(test, 0, addNode("", api.Pair{Name: "k", Value: value.Text(strings.Repeat("x", 2000))}))
	t.says(test, 0, commit, api.ErrFull, api.TellDone)
	t.says(test, 0, info(1), api.ErrNone, api.TellDone)
}

func TestWithoutPower(test *testing.T) {
	v, d := newVault(test, 100, 8)
	t := New(v)
	t.ok(test, 0, addNode("A"))
	held := t.Held(0)
	d.Fail(0)
	t.says(test, 0, info(9), api.ErrPower, api.TellDone)
	t.says(test, 1, addNode("A"), api.ErrPower, api.TellDone)
	if t.Held(0) != held || t.Held(1) != 0 || t.Busy(1) {
		test.Errorf("%d and %d are held", t.Held(0), t.Held(1))
	}
	t.says(test, 0, commit, api.ErrPower, api.TellDone)
	if t.Open(0) {
		test.Error("the transaction is not over")
	}
}

// chosen is an act by chance.
func chosen(chance *rand.Rand) api.Op {
	a, b := uint64(1+chance.Intn(8)), uint64(1+chance.Intn(8))
	labels := []string{"A", "B"}
	p := pair([]string{"k", "j"}[chance.Intn(2)], int64(chance.Intn(4)))
	switch chance.Intn(16) {
	case 0, 1:
		return addNode(labels[chance.Intn(2)], p)
	case 2, 3:
		return addEdge("T", a, b)
	case 4:
		return set(a, p)
	case 5:
		return api.Op{What: api.OpLabel, A: a, Name: labels[b%2], Yes: b > 4}
	case 6:
		return api.Op{What: api.OpDrop, A: a, Edge: b > 3}
	case 7:
		return api.Op{What: api.OpBeside, A: a, Yes: b > 4}
	case 8:
		return api.Op{What: api.OpLabelled, Name: labels[b%2]}
	case 9:
		return api.Op{What: api.OpBetween, Name: "A", Props: []api.Pair{pair("k", int64(a/3)), {Name: "k"}}}
	case 10:
		if chance.Intn(5) == 0 {
			return api.Op{What: api.OpAddIndex, Name: labels[b%2], Props: []api.Pair{p}, B: 1 + a%2}
		}
		return api.Op{What: api.OpDropIndex, Name: labels[b%2], Props: []api.Pair{p}}
	case 11:
		return api.Op{What: api.OpAsk, Name: "find (a:A)-[e]->(b) where a.k > 0 tell a, e, b, b.k"}
	case 12:
		return api.Op{What: api.OpAll, Edge: b > 4}
	case 13:
		return api.Op{What: api.OpWalk, A: a, B: b, Yes: true}
	case 14:
		return []api.Op{{What: api.OpSave}, {What: api.OpBack, A: a % 3}}[b%2]
	}
	return info(a)
}

// told is an act, and what it came to.
type told struct {
	op    api.Op
	reply api.Reply
}

// TestAsIfOneBehindTheOther lets sessions do acts by chance, and then all that were committed alone, in their order: they must be told the same.
func TestAsIfOneBehindTheOther(test *testing.T) {
	for seed := range int64(12) {
		chance := rand.New(rand.NewSource(seed))
		t := newTable(test)
		alone := newTable(test)
		var open [5][]told
		waiting := map[int]api.Op{}
		committed, given := 0, 0
		note := func(who int, op api.Op, r api.Reply, tell int) {
			switch {
			case tell == api.TellWait:
				waiting[who] = op
				return
			case tell == api.TellAbort:
				open[who] = nil
				given++
			case op.What == api.OpAbort, op.What == api.OpCommit && r.Err != api.OK:
				open[who] = nil
			default:
				open[who] = append(open[who], told{op, r})
			}
			delete(waiting, who)
			for _, end := range t.Ends() {
				committed++
				for i, was := range open[end] {
					if r, tell := alone.Do(0, was.op); tell != api.TellDone || !reflect.DeepEqual(r, was.reply) {
						test.Fatalf("seed %d, act %d of session %d (%v): %v, alone %v", seed, i, end, was.op, was.reply, r)
					}
				}
				open[end] = nil
			}
		}
		for range 1500 {
			who := chance.Intn(5)
			if op, waits := waiting[who]; waits {
				r, tell := t.Step(who)
				note(who, op, r, tell)
				continue
			}
			op := chosen(chance)
			if len(open[who]) > 4 {
				op = []api.Op{commit, commit, abort}[chance.Intn(3)]
			}
			r, tell := t.Do(who, op)
			note(who, op, r, tell)
		}
		if committed < 15 || given == 0 {
			test.Errorf("seed %d: %d were committed, %d given up", seed, committed, given)
		}
	}
}

// TestAllComeToAnEnd lets sessions want what others hold, in turns.
func TestAllComeToAnEnd(test *testing.T) {
	chance := rand.New(rand.NewSource(4))
	for round := range 20 {
		t := newTable(test)
		for range 6 {
			t.ok(test, 0, addNode("A"))
		}
		t.ok(test, 0, commit)
		var left [api.MostSessions][]api.Op
		for who := range left {
			for range 4 {
				left[who] = append(left[who], []api.Op{set(uint64(1+chance.Intn(6)), pair("k", int64(who))), info(uint64(1 + chance.Intn(6)))}[chance.Intn(2)])
			}
			left[who] = append(left[who], commit)
		}
		open := api.MostSessions
		for turns := 0; open > 0; turns++ {
			if turns > 1000 {
				test.Fatalf("round %d: %d do not come to an end", round, open)
			}
			for who := range left {
				if len(left[who]) == 0 {
					continue
				}
				tell := 0
				if t.Busy(who) {
					_, tell = t.Step(who)
				} else {
					_, tell = t.Do(who, left[who][0])
				}
				switch tell {
				case api.TellDone:
					left[who] = left[who][1:]
				case api.TellAbort:
					left[who] = nil
				}
				if len(left[who]) == 0 {
					open--
				}
			}
		}
		if t.Locks() != 0 {
			test.Errorf("round %d: %s", round, fmt.Sprint(t.Locks()))
		}
	}
}
