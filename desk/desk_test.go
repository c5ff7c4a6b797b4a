package desk

import (
	"reflect"
	"strings"
	"testing"

	"lodestone/api"
	"lodestone/value"
)

func pair(name string, v api.Value) api.Pair { return api.Pair{Name: name, Value: v} }

// op is a session's act.
func op(who int, op api.Op) api.Act { return api.Act{What: api.ActDo, Who: who, Op: op} }

func TestAct(t *testing.T) {
	five, x := pair("k", value.Int(5)), pair("s", value.Text("x"))
	k := []api.Pair{{Name: "k"}}
	for s, want := range map[string]api.Act{
		`0 node A B: k=5 s="x"`: op(0, api.Op{What: api.OpAddNode, Names: []string{"A", "B"}, Props: []api.Pair{five, x}}),
		"15 node":               op(15, api.Op{What: api.OpAddNode}),
		"0 node A":              op(0, api.Op{What: api.OpAddNode, Names: []string{"A"}}),
		"0 node : k = 5":        op(0, api.Op{What: api.OpAddNode, Props: []api.Pair{five}}),
		"0 node A:":             op(0, api.Op{What: api.OpAddNode, Names: []string{"A"}}),
		"0 node true: true=true nothing=nothing f=false n=-7": op(0, api.Op{What: api.OpAddNode, Names: []string{"true"}, Props: []api.Pair{pair("true", value.Bool(true)), pair("nothing", api.Value{}), pair("f", value.Bool(false)), pair("n", value.Int(-7))}}),
		"0 edge knows 1 2 since=3":                            op(0, api.Op{What: api.OpAddEdge, Name: "knows", A: 1, B: 2, Props: []api.Pair{pair("since", value.Int(3))}}),
		"0 edge knows 1 2":                                    op(0, api.Op{What: api.OpAddEdge, Name: "knows", A: 1, B: 2}),
		"0 set 1 k=5":                                         op(0, api.Op{What: api.OpSet, A: 1, Props: []api.Pair{five}}),
		"0 set 1":                                             op(0, api.Op{What: api.OpSet, A: 1}),
		`0 set 1 k=5 s="x"`:                                   op(0, api.Op{What: api.OpSet, A: 1, Props: []api.Pair{five, x}}),
		"0 setedge 1 k=nothing":                               op(0, api.Op{What: api.OpSet, Edge: true, A: 1, Props: k}),
		"0 label 1 A":                                         op(0, api.Op{What: api.OpLabel, A: 1, Name: "A", Yes: true}),
		"0 unlabel 1 A":                                       op(0, api.Op{What: api.OpLabel, A: 1, Name: "A"}),
		"0 drop 1":                                            op(0, api.Op{What: api.OpDrop, A: 1}),
		"0 dropedge 1":                                        op(0, api.Op{What: api.OpDrop, A: 1, Edge: true}),
		"0 index A k":                                         op(0, api.Op{What: api.OpAddIndex, Name: "A", B: api.IndexRange, Props: k}),
		"0 unique A k":                                        op(0, api.Op{What: api.OpAddIndex, Name: "A", B: api.IndexUnique, Props: k}),
		"0 unindex A k":                                       op(0, api.Op{What: api.OpDropIndex, Name: "A", Props: k}),
		"0 info 1":                                            op(0, api.Op{What: api.OpInfo, A: 1}),
		"0 infoedge 9223372036854775807":                      op(0, api.Op{What: api.OpInfo, A: 9223372036854775807, Edge: true}),
		"0 out 1":                                             op(0, api.Op{What: api.OpBeside, A: 1, Yes: true}),
		"0 in 1":                                              op(0, api.Op{What: api.OpBeside, A: 1}),
		"0 labelled A":                                        op(0, api.Op{What: api.OpLabelled, Name: "A"}),
		`0 between A k -1 "x"`:                                op(0, api.Op{What: api.OpBetween, Name: "A", Props: []api.Pair{pair("k", value.Int(-1)), pair("k", value.Text("x"))}}),
		"0 walk 1 3":                                          op(0, api.Op{What: api.OpWalk, A: 1, B: 3, Yes: true}),
		`0 ask "find (a) tell a"`:                             op(0, api.Op{What: api.OpAsk, Name: "find (a) tell a"}),
		"0 nodes":                                             op(0, api.Op{What: api.OpAll}),
		"0 edges":                                             op(0, api.Op{What: api.OpAll, Edge: true}),
		"0 save":                                              op(0, api.Op{What: api.OpSave}),
		"0 back 1":                                            op(0, api.Op{What: api.OpBack, A: 1}),
		"0 commit":                                            op(0, api.Op{What: api.OpCommit}),
		" 0\tabort ":                                          op(0, api.Op{What: api.OpAbort}),
		"3 go":                                                {What: api.ActGo, Who: 3},
		"checkpoint":                                          {What: api.ActCheck},
		"rotate":                                              {What: api.ActTurn},
		"cut 7":                                               {What: api.ActCut, A: 7},
		"plan 5 0":                                            {What: api.ActPlan, A: 5},
		"up":                                                  {What: api.ActUp},
		`poke 3 0 "xyz"`:                                      {What: api.ActPoke, A: 3, S: "xyz"},
		"keep 2":                                              {What: api.ActKeep, A: 2},
		"restore 0 -1":                                        {What: api.ActBack, B: -1},
	} {
		if got, e := Act(s); e != api.OK || !reflect.DeepEqual(got, want) {
			t.Errorf("%q is %v, %d, not %v", s, got, e, want)
		}
	}
}

func TestActErrors(t *testing.T) {
	for _, s := range []string{
		"", " ", "#", "0", "commit", "0 none", "none", "0 node A k=5", "0 node A: k", "0 node A: k=", "0 node A: 5", "0 node A B:: k=5", "0 node 5", "0 edge 1 2", "0 edge T 1", "0 edge T 1 x", "0 edge T -1 2",
		"0 set k=5", "0 set 1: k=5", "0 label A 1", "0 label 1", "0 drop", "0 drop x", "0 index A", "0 index A k 5", "0 info", "0 out 1 T", "0 between A k 1", "0 between A k 1 2 3", "0 walk 1", `0 ask find`, "0 ask",
		"0 nodes 1", "0 save 1", "0 back", "0 commit 1", "0 go 1", "-1 go", "0 0 go", "checkpoint 1", "cut", "plan 5", "up 1", "poke 3 0", "poke 3 0 xyz", "keep", "restore 0", "restore 0 - 1 1", "0 info 1;", `0 ask "x`,
		"0 checkpoint", "0 ask \"" + strings.Repeat("x", 1000) + "\"", "up\r", "0 set 1 k==5", "0 set 1 k=word",
	} {
		if got, e := Act(s); e != api.ErrLine || !reflect.DeepEqual(got, api.Act{}) {
			t.Errorf("%q is %v, %d", s, got, e)
		}
	}
}

func TestActs(t *testing.T) {
	for s, want := range map[string]int{"": 0, "\n": 0, "\n\n\n": 0, "up": 1, "up\n": 1, "# up\nup\n\n#\nup": 2, strings.Repeat("up\n", api.MostLines): api.MostLines} {
		if got, at, e := Acts(s); len(got) != want || at != 0 || e != api.OK {
			t.Errorf("%.9q: %d acts, %d at %d", s, len(got), e, at)
		}
	}
	for s, want := range map[string]int{"none": 1, "up\nnone\nup": 2, "#\n\n\nup up": 4, "up\n ": 2, " # up": 1} {
		if got, at, e := Acts(s); got != nil || at != want || e != api.ErrLine {
			t.Errorf("%q: %d at %d", s, e, at)
		}
	}
	for _, s := range []string{strings.Repeat("up\n", api.MostLines+1), strings.Repeat("\n", api.MostLines+1), "#" + strings.Repeat("x", api.MostDesk)} {
		if got, at, e := Acts(s); got != nil || at != 0 || e != api.ErrMuch {
			t.Errorf("%d bytes: %d at %d", len(s), e, at)
		}
	}
	if _, _, e := Acts("#" + strings.Repeat("x", api.MostDesk-1)); e != api.OK {
		t.Errorf("the most bytes: %d", e)
	}
}

// runs tells what a script must come to.
func runs(t *testing.T, script string, want ...string) {
	t.Helper()
	got, at, e := Run(script, 100, 8)
	if e != api.OK || at != 0 || got != strings.Join(want, "\n")+"\n" {
		t.Errorf("%s: %d at %d:\n%s", script, e, at, got)
	}
}

func TestRun(t *testing.T) {
	runs(t, "", "stuck ok", "changes 0 log 0 free 90 taken 0 epoch 0 wrong 0")
	runs(t, "0 node A\n0 commit\n", "ok 1", "ok", "stuck ok", "changes 4 log 1 free 90 taken 0 epoch 0 wrong 0", "node 1:A")
	runs(t, strings.Join([]string{
		`0 node A B: k=5 s="x"`, "0 node", "0 edge knows 1 2 since=true", "1 info 1", "0 commit", "1 go", "1 go", "# a remark", "",
		`0 ask "find (a)-[e]->(b) tell a.s, e.since, b.k"`, "1 abort", "0 drop 1", "0 nodes", "",
	}, "\n"),
		"ok 1", "ok 2", "ok 1", "waits", "ok", `ok node 1:A:B {k: 5, s: "x"}`, "ok", `ok ("x", true, nothing)`, "ok", "used", "ok [1 2]",
		"stuck ok", "changes 10 log 1 free 90 taken 0 epoch 0 wrong 0", `node 1:A:B {k: 5, s: "x"}`, "node 2", "edge 1 1-knows->2 {since: true}")
}

func TestExamplesOfTheWhole(t *testing.T) {
	runs(t, "0 node A\n0 commit\ncut 0\n0 nodes\nup", "ok 1", "ok", "ok", "power", "ok", "stuck ok", "changes 4 log 1 free 90 taken 0 epoch 0 wrong 0", "node 1:A")
	runs(t, "0 node: k=0\n0 node: k=0\n0 commit\n0 set 1 k=1\n1 set 2 k=1\n0 info 2\n1 info 1\n0 go\n0 abort", "ok 1", "ok 2", "ok", "ok", "ok", "waits", "deadlock", "ok node 2 {k: 0}", "ok",
		"stuck ok", "changes 4 log 1 free 90 taken 0 epoch 0 wrong 0", "node 1 {k: 0}", "node 2 {k: 0}")
	runs(t, "0 node A\n0 commit\npoke 1 20 \"x\"\nup\n0 nodes", "ok 1", "ok", "ok", "integrity", "integrity", "stuck integrity")
	runs(t, "0 node A\n0 commit\nkeep 0\n0 node A\n0 commit\nrestore 0 -1\nup\nrestore 1 -1", "ok 1", "ok", "ok", "ok 2", "ok", "ok", "integrity", "none", "stuck integrity")
	runs(t, "0 node A\n0 commit\nrotate\nrotate\nrotate\nrotate", "ok 1", "ok", "ok", "ok", "ok", "done", "stuck ok", "changes 0 log 0 free 89 taken 1 epoch 1 wrong 0", "node 1:A")
	runs(t, "0 node A\n0 commit\ncheckpoint\nrotate\npoke 0 0 \"x\"", "ok 1", "ok", "ok", "ok", "ok", "stuck ok", "changes 0 log 0 free 89 taken 1 epoch 1 turns wrong 0", "node 1:A")
	runs(t, "plan 1 0\ncheckpoint\n0 node\n0 commit\ncheckpoint", "ok", "ok", "ok 1", "power", "power", "stuck power")
}

func TestRunErrors(t *testing.T) {
	for i, c := range []struct {
		s           string
		blocks, log int
		at          int
		want        api.Errno
	}{
		{"up\nno", 100, 8, 2, api.ErrLine}, {strings.Repeat("\n", 700), 100, 8, 0, api.ErrMuch}, {"up", 0, 8, 0, api.ErrInput}, {"up", 100, 3, 0, api.ErrInput}, {"no", 0, 0, 1, api.ErrLine}, {"up", 1 << 40, 8, 0, api.ErrInput},
	} {
		if got, at, e := Run(c.s, c.blocks, c.log); got != "" || at != c.at || e != c.want {
			t.Errorf("case %d: %q, %d at %d", i, got, e, at)
		}
	}
}
