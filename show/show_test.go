package show

import (
	"math"
	"testing"

	"lodestone/api"
	"lodestone/value"
)

// is tells what a text must be.
func is(t *testing.T, got, want string) {
	t.Helper()
	if got != want {
		t.Errorf("%s, not %s", got, want)
	}
}

var (
	node = api.Info{ID: 1, Labels: []string{"A", "B"}, Props: []api.Pair{{Name: "k", Value: value.Int(5)}, {Name: "s", Value: value.Text("x")}}}
	edge = api.Info{ID: 3, Edge: true, Type: "knows", From: 1, To: 2, Props: []api.Pair{{Name: "since", Value: value.Bool(true)}}}
)

func TestNumbers(t *testing.T) {
	is(t, Num(0), "0")
	is(t, Num(math.MinInt64), "-9223372036854775808")
	is(t, ID(math.MaxUint64), "18446744073709551615")
	is(t, Ids([]uint64{1, 2, 3}), "[1 2 3]")
	is(t, Ids(nil), "[]")
}

func TestValue(t *testing.T) {
	for want, v := range map[string]api.Value{
		"nothing": {}, "true": value.Bool(true), "false": value.Bool(false), "-5": value.Int(-5), `"a\"\\b"`: value.Text(`a"\b`), `""`: value.Text(""), "9": {Kind: api.KindInt, N: 9, S: "s"},
	} {
		is(t, Value(v), want)
	}
	is(t, Value(api.Value{Kind: 9, N: 1}), "nothing")
	is(t, Value(api.Value{Kind: -1}), "nothing")
	is(t, Value(api.Value{Kind: api.KindBool, N: -3}), "true")
}

func TestInfo(t *testing.T) {
	is(t, Info(node), `node 1:A:B {k: 5, s: "x"}`)
	is(t, Info(edge), "edge 3 1-knows->2 {since: true}")
	is(t, Info(api.Info{ID: 7}), "node 7")
	is(t, Info(api.Info{ID: 7, Labels: []string{"A"}}), "node 7:A")
	is(t, Info(api.Info{ID: 7, Edge: true, Type: "T", From: 9, To: 9}), "edge 7 9-T->9")
}

func TestErrno(t *testing.T) {
	for want, e := range map[string]api.Errno{
		"ok": api.OK, "input": api.ErrInput, "much": api.ErrMuch, "full": api.ErrFull, "none": api.ErrNone, "power": api.ErrPower, "integrity": api.ErrIntegrity, "twice": api.ErrTwice,
		"used": api.ErrUsed, "deadlock": api.ErrDeadlock, "busy": api.ErrBusy, "error 2": api.ErrShort, "error 3": api.ErrForm, "error 100": api.ErrTag, "error 420": api.ErrLine, "error -1": -1,
	} {
		is(t, Errno(e), want)
	}
	is(t, Errno(api.ErrWord), "malformed")
	is(t, Errno(api.ErrGrammar), "malformed")
}

func TestReply(t *testing.T) {
	is(t, Reply(api.Reply{}), "ok")
	is(t, Reply(api.Reply{Err: api.ErrFull}), "full")
	is(t, Reply(api.Reply{Err: api.ErrFull, ID: 5}), "full")
	is(t, Reply(api.Reply{ID: 5}), "ok 5")
	all := api.Reply{ID: 5, IDs: []uint64{1, 2, 3}, Infos: []api.Info{node, edge}, Rows: [][]api.Value{{value.Int(5), value.Text("x")}, {{}, value.Bool(true)}, nil}}
	is(t, Reply(all), `ok 5 [1 2 3] node 1:A:B {k: 5, s: "x"} edge 3 1-knows->2 {since: true} (5, "x") (nothing, true) ()`)
}

func TestSaid(t *testing.T) {
	is(t, Said(api.Said{}), "none")
	is(t, Said(api.Said{Reply: api.Reply{ID: 1}, Tell: api.TellWait, Done: true}), "none")
	is(t, Said(api.Said{OK: true, Tell: api.TellWait, Done: true}), "waits")
	is(t, Said(api.Said{OK: true, Tell: api.TellDone, Done: true}), "done")
	is(t, Said(api.Said{OK: true, Tell: api.TellDone, Reply: api.Reply{ID: 1}}), "ok 1")
	is(t, Said(api.Said{OK: true, Tell: api.TellAbort, Reply: api.Reply{Err: api.ErrDeadlock}}), "deadlock")
	is(t, Said(api.Said{OK: true}), "ok")
}

func TestStat(t *testing.T) {
	s := api.Stat{Changes: 2, Log: 1, Free: 80, Taken: 3, Gen: 9}
	is(t, Stat(s), "changes 2 log 1 free 80 taken 3 epoch 0")
	s.Turn, s.Epoch = true, math.MaxUint32
	is(t, Stat(s), "changes 2 log 1 free 80 taken 3 epoch 4294967295 turns")
}
