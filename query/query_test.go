package query

import (
	"math"
	"reflect"
	"slices"
	"strings"
	"testing"

	"lodestone/api"
	"lodestone/value"
)

const great = `find (a:Person {name: "x"}) -[e:knows]-> (b) <-[:likes]- (c:Person) where b.age < 5 and e.since >= 2 tell a, b.age limit 10`

func parsed(t *testing.T, s string) api.Question {
	t.Helper()
	q, at, e := Parse(s)
	if e != api.OK || at != 0 || !May(q) {
		t.Errorf("%q: %d at %d", s, e, at)
	}
	return q
}

func TestParse(t *testing.T) {
	want := api.Question{
		Nodes: []api.NodePat{{Var: "a", Label: "Person", Props: []api.Pair{{Name: "name", Value: value.Text("x")}}}, {Var: "b"}, {Var: "c", Label: "Person"}},
		Edges: []api.EdgePat{{Var: "e", Type: "knows", Out: true}, {Type: "likes"}},
		Where: []api.Cond{{Var: "b", Key: "age", Op: api.CondLess, Value: value.Int(5)}, {Var: "e", Key: "since", Op: api.CondFrom, Value: value.Int(2)}},
		Tell:  []api.Item{{Var: "a"}, {Var: "b", Key: "age"}},
		Limit: 10,
	}
	if got := parsed(t, great); !reflect.DeepEqual(got, want) {
		t.Errorf("the question is %v", got)
	}
	if got := parsed(t, "find (a) tell a"); !reflect.DeepEqual(got, api.Question{Nodes: []api.NodePat{{Var: "a"}}, Tell: []api.Item{{Var: "a"}}, Limit: api.MostLimit}) {
		t.Errorf("the question is %v", got)
	}
	if got := Vars(want); !slices.Equal(got, []string{"a", "b", "c", "e", ""}) {
		t.Errorf("names are %q", got)
	}
}

func TestValues(t *testing.T) {
	q := parsed(t, `find(a{b:1,c:-2,d:"t",true:true,e:false,f:nothing,g:- 0})where a.x=nothing tell a limit 0`)
	want := []api.Pair{{Name: "b", Value: value.Int(1)}, {Name: "c", Value: value.Int(-2)}, {Name: "d", Value: value.Text("t")}, {Name: "true", Value: value.Bool(true)}, {Name: "e", Value: value.Bool(false)}, {Name: "f"}, {Name: "g", Value: value.Int(0)}}
	if !slices.Equal(q.Nodes[0].Props, want) || q.Where[0].Value != (api.Value{}) || q.Limit != 0 {
		t.Errorf("the question is %v", q)
	}
	for s, op := range map[string]int{"<": api.CondLess, "<=": api.CondUpTo, "=": api.CondSame, "!=": api.CondOther, ">=": api.CondFrom, ">": api.CondMore} {
		if q := parsed(t, "find (a) where a.k "+s+" 1 tell a"); q.Where[0].Op != op {
			t.Errorf("%s is %d", s, q.Where[0].Op)
		}
	}
	parsed(t, "find ()-[]->()<-[]-(a) tell a")
	parsed(t, "find (:L)-[e]->(:M {k: 1}) tell e.k, e")
}

func TestGrammarErrors(t *testing.T) {
	for s, want := range map[string]int{
		"": 0, "tell": 0, "find": 4, "find a": 5, "find (": 6, "find (a": 7, "find (a b)": 8, "find (a:)": 8, "find (a:1)": 8, "find (find) tell a": 6, "find (a:where) tell a": 8,
		"find (abcdefghijklmnopqrstu) tell a": 6, "find (a {}) tell a": 9, "find (a {k})": 10, "find (a {k:})": 11, "find (a {k: 1,}) tell a": 14, "find (a {k: 1 l: 2}) tell a": 14, "find (a {k: -}) tell a": 13, "find (a {k: -x}) tell a": 13,
		"find (a {nothing: 1}) tell a": 9, "find (a {k: x}) tell a": 12,
		"find (a) - (b) tell a": 11, "find (a) -[e]- (b) tell a": 13, "find (a) <-[e]-> (b) tell a": 14, "find (a) -[e] (b) tell a": 14, "find (a) -[e:]-> (b) tell a": 13, "find (a) -> (b) tell a": 9, "find (a) -[e]->": 15,
		"find (a)": 8, "find (a) where tell a": 15, "find (a) where a tell a": 17, "find (a) where a.k tell a": 19, "find (a) where a.k = tell a": 21, "find (a) where a.k = 1 and tell a": 27, "find (a) where a.k == 1 tell a": 20,
		"find (a) where a.k = 1 or a.k = 2 tell a": 23, "find (a) tell": 13, "find (a) tell a,": 16, "find (a) tell a.": 16, "find (a) tell a b": 16, "find (a) tell limit": 14, "find (a) tell a limit": 21, "find (a) tell a limit -1": 22,
		"find (a) tell a limit 257": 22, "find (a) tell a limit 9223372036854775807 ": 22, "find (a) tell b limit 257": 22, "find (a) tell a limit 257 6": 22, "find (a)-[a]->() tell b  limit\t0300": 31,
		"find (a) tell a limit 5 6": 24, "find (a) tell a limit x": 22, "find (a) tell 5": 14, "find (a) tell and": 14, `find (a) tell "a"`: 14,
	} {
		if q, at, e := Parse(s); at != want || e != api.ErrGrammar || !reflect.DeepEqual(q, api.Question{}) {
			t.Errorf("%q: %d at %d, not at %d", s, e, at, want)
		}
	}
	for s, want := range map[string]int{"find (a) tell !": 14, "find (a) ; (": 9} {
		if _, at, e := Parse(s); at != want || e != api.ErrWord {
			t.Errorf("%q: %d at %d", s, e, at)
		}
	}
	if _, at, e := Parse(strings.Repeat(" ", api.MostQuestion+1)); at != 0 || e != api.ErrMuch {
		t.Errorf("%d at %d", e, at)
	}
}

func TestWhatMayNotBeEndsAtTheEnd(t *testing.T) {
	chain := func(n int) string { return "find (a)" + strings.Repeat("-[]->()", n) }
	conds := func(n int) string { return "find (a) where a.k = 1" + strings.Repeat(" and a.k = 1", n-1) + " tell a" }
	items := func(n int) string { return "find (a) tell a" + strings.Repeat(", a", n-1) }
	for s, ok := range map[string]bool{
		chain(6) + " tell a": true, chain(7) + " tell a": false, conds(8): true, conds(9): false, items(8): true, items(9): false,
		"find (a) tell a limit 256": true, "find (a) tell a limit 0": true, "find (a) tell b limit 256": false, "find (a)-[a]->() tell a limit 0": false,
		"find (a)-[]->(a) tell a": false, "find (a)-[a]->() tell a": false, "find ()-[e]->()-[e]->() tell e": false, "find (a) tell b": false, "find (a) where b.k = 1 tell a": false, "find (:a) tell a": false,
	} {
		q, at, e := Parse(s)
		if ok && e != api.OK || !ok && (e != api.ErrGrammar || at != len(s) || !reflect.DeepEqual(q, api.Question{})) {
			t.Errorf("%q: %d at %d", s, e, at)
		}
	}
}

func TestMay(t *testing.T) {
	for i, q := range []api.Question{
		{}, {Nodes: []api.NodePat{{Var: "a"}}}, {Tell: []api.Item{{Var: "a"}}}, {Nodes: []api.NodePat{{Var: "a"}}, Edges: []api.EdgePat{{}}, Tell: []api.Item{{Var: "a"}}},
		{Nodes: []api.NodePat{{Var: "a"}}, Tell: []api.Item{{Var: "a"}}, Limit: -1}, {Nodes: []api.NodePat{{Var: "a"}}, Tell: []api.Item{{Var: "a"}}, Limit: api.MostLimit + 1}, {Nodes: []api.NodePat{{}}, Tell: []api.Item{{}}}, {Nodes: []api.NodePat{{Var: "a"}}, Tell: []api.Item{{Var: "a"}}, Where: []api.Cond{{}}},
	} {
		if May(q) {
			t.Errorf("case %d may be", i)
		}
		Text(q)
	}
	if !May(api.Question{Nodes: []api.NodePat{{Var: "no name"}}, Tell: []api.Item{{Var: "no name"}}}) {
		t.Error("names are looked at")
	}
}

func TestText(t *testing.T) {
	want := `find (a:Person {name: "x"})-[e:knows]->(b)<-[:likes]-(c:Person) where b.age < 5 and e.since >= 2 tell a, b.age limit 10`
	if got := Text(parsed(t, great)); got != want {
		t.Errorf("Text is %s", got)
	}
	want = `find ( {a: nothing, b: true, c: false, d: -5, e: "\"\\"})-[]->(a) where a.k != nothing tell a limit 256`
	if got := Text(parsed(t, want)); got != want {
		t.Errorf("Text is %s", got)
	}
	for _, s := range []string{great, want, "find (a) tell a", "find (a)<-[e]-(:B)-[:T]->(c {k: 9223372036854775807}) where e.k > 1 and e.k <= 2 and c.k = \"\xff\" tell e limit 0"} {
		q := parsed(t, s)
		if again := parsed(t, Text(q)); !reflect.DeepEqual(again, q) {
			t.Errorf("%q is %v again", s, again)
		}
	}
	q := parsed(t, "find (a) where a.k = 1 tell a")
	q.Where[0].Op, q.Where[0].Value = 9, api.Value{Kind: 9}
	if got := Text(q); got != "find (a) where a.k  nothing tell a limit 256" {
		t.Errorf("Text is %s", got)
	}
	q.Where[0].Op, q.Where[0].Value = math.MinInt, value.Int(math.MinInt64)
	Text(q)
}
