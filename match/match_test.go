package match

import (
	"fmt"
	"math/rand"
	"slices"
	"strings"
	"testing"

	"lodestone/api"
	"lodestone/device"
	"lodestone/disk"
	"lodestone/graph"
	"lodestone/query"
	"lodestone/value"
	"lodestone/vault"
	"lodestone/view"
)

func newGraph(t *testing.T) (*graph.Graph, *disk.Disk) {
	t.Helper()
	d, _ := disk.New(600, nil)
	dev, e := device.New("a master key of thirty-two bytes", d)
	if e != api.OK {
		t.Fatal(e)
	}
	v, e := vault.Open(d, dev, nil, api.Setup{Log: 40, Cache: 64})
	if e != api.OK {
		t.Fatal(e)
	}
	g, e := graph.Of(view.New(v))
	if e != api.OK {
		t.Fatal(e)
	}
	return g, d
}

func node(t *testing.T, g *graph.Graph, labels string, props ...api.Pair) uint64 {
	t.Helper()
	id, e := g.AddNode(strings.Fields(labels), props)
	if e != api.OK {
		t.Fatal(e)
	}
	return id
}

func edge(t *testing.T, g *graph.Graph, typ string, from, to uint64, props ...api.Pair) uint64 {
	t.Helper()
	id, e := g.AddEdge(typ, from, to, props)
	if e != api.OK {
		t.Fatal(e)
	}
	return id
}

func pair(name string, n int64) api.Pair { return api.Pair{Name: name, Value: value.Int(n)} }

// ask is a question's rows as a text.
func ask(t *testing.T, g *graph.Graph, s string) string {
	t.Helper()
	q, _, e := query.Parse(s)
	if e != api.OK {
		t.Fatalf("%q: %d", s, e)
	}
	rows, e := Rows(g, q)
	if e != api.OK {
		t.Fatalf("%q: %d", s, e)
	}
	return said(rows)
}

func said(rows [][]api.Value) string {
	var all []string
	for _, row := range rows {
		var l []string
		for _, v := range row {
			switch v.Kind {
			case api.KindNone:
				l = append(l, "-")
			case api.KindText:
				l = append(l, v.S)
			default:
				l = append(l, fmt.Sprint(v.N))
			}
		}
		all = append(all, strings.Join(l, ","))
	}
	return strings.Join(all, " ")
}

// people is a graph of four, who know and like one another.
func people(t *testing.T) *graph.Graph {
	t.Helper()
	g, _ := newGraph(t)
	node(t, g, "P", pair("age", 30), api.Pair{Name: "name", Value: value.Text("Ann")})
	node(t, g, "P", pair("age", 20))
	node(t, g, "P Q", pair("age", 40))
	node(t, g, "Q")
	edge(t, g, "likes", 1, 2)               // 1
	edge(t, g, "knows", 1, 2, pair("y", 5)) // 2
	edge(t, g, "knows", 1, 3, pair("y", 7)) // 3
	edge(t, g, "knows", 2, 3)               // 4
	edge(t, g, "knows", 3, 1)               // 5
	edge(t, g, "likes", 3, 3)               // 6
	return g
}

func TestQuestions(t *testing.T) {
	g := people(t)
	for s, want := range map[string]string{
		"find (a) tell a":                                                         "1 2 3 4",
		"find (a:P) tell a":                                                       "1 2 3",
		"find (a:none) tell a":                                                    "",
		"find (a:Q) tell a, a.age":                                                "3,40 4,-",
		`find (a {name: "Ann"}) tell a, a.name`:                                   "1,Ann",
		"find (a:Q {age: nothing}) tell a":                                        "4",
		"find (a:P {age: 20, name: nothing}) tell a":                              "2",
		"find (a)-[e]->(b) tell a, e, b":                                          "1,1,2 1,2,2 1,3,3 2,4,3 3,5,1 3,6,3",
		"find (a)<-[e]-(b) tell a, e, b":                                          "1,5,3 2,1,1 2,2,1 3,3,1 3,4,2 3,6,3",
		"find (a)-[e:knows]->(b) tell a, b, e.y":                                  "1,2,5 1,3,7 2,3,- 3,1,-",
		"find (a)-[:none]->(b) tell a":                                            "",
		"find (a)-[:knows]->(b)-[:knows]->(c) tell a, b, c":                       "1,2,3 1,3,1 2,3,1 3,1,2 3,1,3",
		"find (a)-[:knows]->(b)<-[:knows]-(c) tell a, b, c":                       "1,2,1 1,3,1 1,3,2 2,3,1 2,3,2 3,1,3",
		"find (a)-[]->(b:Q) tell a, b":                                            "1,3 2,3 3,3",
		"find (a)-[e]->(b) where e.y >= 5 tell e":                                 "2 3",
		"find (a)-[e]->(b) where b.age > 20 and a.age < 40 tell a, b":             "1,3 2,3",
		"find (a) where a.age = nothing tell a":                                   "4",
		"find (a) where a.age != nothing tell a":                                  "1 2 3",
		"find (a) where a.age != 20 tell a":                                       "1 3 4",
		`find (a) where a.age < "x" tell a`:                                       "",
		`find (a) where a.name <= "Ann" tell a`:                                   "1",
		"find (a)-[e]->(b) tell e limit 3":                                        "1 2 3",
		"find (a) tell a limit 0":                                                 "",
		"find (a)-[]->(b)-[]->(c)-[]->(d)-[]->(e)-[]->(f)-[]->(h) tell h limit 1": "1",
	} {
		if got := ask(t, g, s); got != want {
			t.Errorf("%s: %s, not %s", s, got, want)
		}
	}
}

func TestByIndex(t *testing.T) {
	g := people(t)
	want := ask(t, g, "find (a:P {name: nothing, age: 20}) tell a")
	g.AddIndex("P", "age", api.IndexRange)
	if got := ask(t, g, "find (a:P {name: nothing, age: 20}) tell a"); got != want || got != "2" {
		t.Errorf("by an index: %s, not %s", got, want)
	}
	fresh := func() *graph.Graph {
		h, e := graph.Of(g.View().Clone())
		if e != api.OK {
			t.Fatal(e)
		}
		return h
	}
	looked := func(h *graph.Graph) string {
		s := ""
		for _, n := range h.View().Needs() {
			s += n.What + " "
		}
		return s
	}
	for s, want := range map[string]string{
		"find (a:P {name: nothing, age: 20}) tell a": "s l0 n2 ",
		"find (a:P {name: nothing}) tell a":          "s l0 n1 n2 n3 ",
		"find (a:Q {age: 40}) tell a":                "s l1 n3 n4 ",
		"find (a {age: 20}) tell a":                  "s d n1 n2 n3 n4 ",
		"find (a:P {age: nothing}) tell a":           "s l0 n1 n2 n3 ",
		"find (a) tell a limit 1":                    "s d n1 ",
		"find (a:P {age: 20})-[e:knows]->() tell a":  "s l0 n2 e4 n3 ",
		"find (a) tell a limit 0":                    "s d ",
	} {
		h := fresh()
		ask(t, h, s)
		if got := looked(h); got != want {
			t.Errorf("%s looks at %s, not %s", s, got, want)
		}
	}
}

func TestMostTries(t *testing.T) {
	g, _ := newGraph(t)
	node(t, g, "")
	for range 20 {
		edge(t, g, "T", 1, 1)
	}
	q, _, _ := query.Parse("find (a)-[]->(b)-[]->(c)-[]->(d) where d.k = 1 tell a")
	if rows, e := Rows(g, q); rows != nil || e != api.ErrMuch {
		t.Errorf("%d rows, %d", len(rows), e)
	}
	q, _, _ = query.Parse("find (a)-[]->(b)-[]->(c) where a.k = 1 tell a")
	if rows, e := Rows(g, q); len(rows) != 0 || e != api.OK {
		t.Errorf("%d rows, %d", len(rows), e)
	}
	// 1 node; 20 edges and nodes; of each of these 20 edges and nodes: 841 tries. With 79 more edges and nodes..
	q, _, _ = query.Parse("find (a)-[]->(b)-[]->(c) tell a")
	if rows, e := Rows(g, q); len(rows) != api.MostLimit || e != api.OK {
		t.Errorf("%d rows, %d", len(rows), e)
	}
}

func TestTriesAreCountedOneByOne(t *testing.T) {
	// One node, from which n edges lead to itself, is tried with 1 + 2n things, and from each of these nodes 2n more.
	for n, want := range map[int]api.Errno{43: api.OK, 44: api.OK, 45: api.ErrMuch} {
		g, _ := newGraph(t)
		node(t, g, "")
		for range n {
			edge(t, g, "T", 1, 1)
		}
		q, _, _ := query.Parse("find (a)-[]->(b)-[]->(c) where c.k = 1 tell a")
		if _, e := Rows(g, q); e != want {
			t.Errorf("%d tries: %d", 1+2*n+2*n*n, e)
		}
	}
	g, _ := newGraph(t)
	for range api.MostTries {
		node(t, g, "")
	}
	q, _, _ := query.Parse("find (a) where a.k = 1 tell a")
	if _, e := Rows(g, q); e != api.OK {
		t.Errorf("the most tries: %d", e)
	}
	node(t, g, "")
	if _, e := Rows(g, q); e != api.ErrMuch {
		t.Errorf("one more: %d", e)
	}
	q, _, _ = query.Parse("find (a) tell a limit 1")
	if _, e := Rows(g, q); e != api.OK {
		t.Errorf("the first one: %d", e)
	}
}

func TestWhatMayNotBe(t *testing.T) {
	g := people(t)
	for i, q := range []api.Question{{}, {Nodes: []api.NodePat{{}, {}}}, {Nodes: []api.NodePat{{}}, Edges: []api.EdgePat{{}}}} {
		if rows, e := Rows(g, q); rows != nil || e != api.ErrInput {
			t.Errorf("case %d: %d", i, e)
		}
	}
	one := api.Question{Nodes: []api.NodePat{{Var: "a"}}, Tell: []api.Item{{Var: "b"}, {Var: "b", Key: "age"}, {}, {Key: "age"}}, Limit: 1}
	if rows, e := Rows(nil, one); rows != nil || e != api.ErrInput {
		t.Errorf("no graph: %d", e)
	}
	if rows, e := Rows(g, one); e != api.OK || said(rows) != "0,-,0,-" {
		t.Errorf("names that are none: %v, %d", rows, e)
	}
}

// TestConditionsOnOtherNames: by a name that the question has not nothing is laid, so that each property there is nothing.
func TestConditionsOnOtherNames(t *testing.T) {
	g := people(t)
	none, one := api.Value{}, value.Int(1)
	hop := []api.EdgePat{{Var: "e", Type: "likes", Out: true}}
	for _, name := range []string{"z", ""} {
		for _, c := range []struct {
			where []api.Cond
			holds bool
		}{
			{[]api.Cond{{Var: name, Key: "age", Op: api.CondSame, Value: one}}, false},
			{[]api.Cond{{Var: name, Key: "age", Op: api.CondSame, Value: none}}, true},
			{[]api.Cond{{Var: name, Key: "age", Op: api.CondOther, Value: one}}, true},
			{[]api.Cond{{Var: name, Key: "age", Op: api.CondOther, Value: none}}, false},
			{[]api.Cond{{Var: name, Key: "age", Op: api.CondLess, Value: one}}, false},
			{[]api.Cond{{Var: name, Key: "age", Op: api.CondMore, Value: one}}, false},
			{[]api.Cond{{Var: name, Key: "age", Op: api.CondLess, Value: none}}, false},
			{[]api.Cond{{Var: name, Key: "age", Op: api.CondUpTo, Value: none}}, true},
			{[]api.Cond{{Var: name, Key: "age", Op: api.CondFrom, Value: none}}, true},
			{[]api.Cond{{Var: name, Op: api.CondSame, Value: none}}, true},
			{[]api.Cond{{Var: name, Key: "age", Op: 6, Value: none}}, false},
			{[]api.Cond{{Var: name, Key: "age", Op: api.CondSame, Value: none}, {Var: name, Key: "y", Op: api.CondSame, Value: one}}, false},
			{[]api.Cond{{Var: "a", Key: "none", Op: api.CondSame, Value: none}, {Var: name, Key: "age", Op: api.CondSame, Value: one}}, false},
		} {
			for _, q := range []struct {
				api.Question
				want string
			}{
				{api.Question{Nodes: []api.NodePat{{Var: "a"}}}, "1 2 3 4"},
				{api.Question{Nodes: []api.NodePat{{Var: "a"}, {}}, Edges: hop}, "1 3"},
				{api.Question{Nodes: []api.NodePat{{Var: "a"}, {Var: "b"}}, Edges: []api.EdgePat{{Type: "likes"}}}, "2 3"},
			} {
				q.Where, q.Tell, q.Limit = c.where, []api.Item{{Var: "a"}}, 9
				if !c.holds {
					q.want = ""
				}
				if rows, e := Rows(g, q.Question); e != api.OK || said(rows) != q.want {
					t.Errorf("where %v: %s, not %s, %d", c.where, said(rows), q.want, e)
				}
			}
		}
	}
}

// TestConditionsOnOtherNamesCutNothingShort: as their names are never laid, all is tried that is tried without them.
func TestConditionsOnOtherNamesCutNothingShort(t *testing.T) {
	for n, want := range map[int]api.Errno{44: api.OK, 45: api.ErrMuch} {
		g, _ := newGraph(t)
		node(t, g, "")
		for range n {
			edge(t, g, "T", 1, 1)
		}
		q, _, _ := query.Parse("find (a)-[]->(b)-[]->(c) tell a")
		q.Where = []api.Cond{{Var: "z", Key: "k", Op: api.CondSame, Value: value.Int(1)}}
		if rows, e := Rows(g, q); rows != nil || e != want {
			t.Errorf("%d edges: %d rows, %d", n, len(rows), e)
		}
	}
}

func TestProp(t *testing.T) {
	x := api.Info{Props: []api.Pair{pair("a", 1), pair("b", 2)}}
	if Prop(x, "b") != value.Int(2) || Prop(x, "c") != (api.Value{}) || Prop(api.Info{}, "") != (api.Value{}) {
		t.Error("Prop tells others")
	}
}

func TestHolds(t *testing.T) {
	values := []api.Value{{}, value.Bool(false), value.Bool(true), value.Int(-1), value.Int(3), value.Text("a"), value.Text("b")}
	for i, a := range values {
		for k, b := range values {
			one := a.Kind == b.Kind
			for op, want := range map[int]bool{
				api.CondLess: one && i < k, api.CondUpTo: one && i <= k, api.CondSame: i == k, api.CondOther: i != k, api.CondFrom: one && i >= k, api.CondMore: one && i > k, -1: false, 6: false,
			} {
				if Holds(op, a, b) != want {
					t.Errorf("Holds(%d, %v, %v) is not %v", op, a, b, want)
				}
			}
		}
	}
}

func TestErrorsOfTheStore(t *testing.T) {
	g, d := newGraph(t)
	node(t, g, "")
	q, _, _ := query.Parse("find (a) tell a")
	d.Fail(0)
	if rows, e := Rows(g, q); rows != nil || e != api.ErrPower {
		t.Errorf("without power: %d", e)
	}
}

// TestAgainstAllWays lays patterns of two edges in all ways, and holds them against what is found.
func TestAgainstAllWays(t *testing.T) {
	chance := rand.New(rand.NewSource(9))
	g, _ := newGraph(t)
	for range 8 {
		node(t, g, []string{"A", "B", "A B", ""}[chance.Intn(4)], pair("k", int64(chance.Intn(3))))
	}
	for range 40 {
		edge(t, g, []string{"S", "T"}[chance.Intn(2)], uint64(1+chance.Intn(8)), uint64(1+chance.Intn(8)), pair("k", int64(chance.Intn(3))))
	}
	edges, _ := g.All(true)
	for _, s := range []string{"find (a:A)-[e:T]->(b {k: 1})<-[f]-(c:B) where c.k >= 0 and e.k != 3 tell a, e, b, f, c", "find (a)<-[e]-(b)-[f:S]->(c) where a.k = 0 tell a, e, b, f, c"} {
		q, _, _ := query.Parse(s)
		var want [][]uint64
		for _, first := range edges {
			for _, second := range edges {
				e, _ := g.Info(true, first)
				f, _ := g.Info(true, second)
				row := []uint64{e.From, first, e.To, second, f.From}
				if !q.Edges[0].Out {
					row = []uint64{e.To, first, e.From, second, f.To}
				}
				if q.Edges[1].Out && f.From != row[2] || !q.Edges[1].Out && f.To != row[2] {
					continue
				}
				ok := true
				for i, id := range row {
					x, _ := g.Info(i%2 == 1, id)
					name := ""
					if i%2 == 0 {
						name = q.Nodes[i/2].Var
						ok = ok && fits(q.Nodes[i/2], x)
					} else {
						name = q.Edges[i/2].Var
						ok = ok && (q.Edges[i/2].Type == "" || q.Edges[i/2].Type == x.Type)
					}
					for _, c := range q.Where {
						ok = ok && (c.Var != name || Holds(c.Op, Prop(x, c.Key), c.Value))
					}
				}
				if ok {
					want = append(want, row)
				}
			}
		}
		slices.SortFunc(want, slices.Compare)
		rows, e := Rows(g, q)
		if e != api.OK || len(rows) != len(want) || len(want) == 0 {
			t.Fatalf("%s: %d rows, not %d, %d", s, len(rows), len(want), e)
		}
		for i, row := range rows {
			for k, v := range row {
				if v != value.Int(int64(want[i][k])) {
					t.Fatalf("%s: row %d is %v, not %v", s, i, row, want[i])
				}
			}
		}
	}
}
