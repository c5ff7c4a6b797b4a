package graph

import (
	"fmt"
	"math/rand"
	"reflect"
	"slices"
	"strings"
	"testing"

	"lodestone/api"
	"lodestone/device"
	"lodestone/disk"
	"lodestone/value"
	"lodestone/vault"
	"lodestone/view"
)

func newVault(t *testing.T) (*vault.Vault, *disk.Disk) {
	t.Helper()
	d, _ := disk.New(600, nil)
	dev, e := device.New("a master key of thirty-two bytes", d)
	if e != api.OK {
		t.Fatal(e)
	}
	v, e := vault.Open(d, dev, nil, api.Setup{Log: 40, Cache: 64})
	if e != api.OK {
		t.Fatal(e)
	}
	return v, d
}

// of is the graph of a view.
func of(t *testing.T, x *view.View) *Graph {
	t.Helper()
	g, e := Of(x)
	if e != api.OK {
		t.Fatalf("Of: %d", e)
	}
	return g
}

func newGraph(t *testing.T) *Graph {
	t.Helper()
	v, _ := newVault(t)
	return of(t, view.New(v))
}

// again is a graph of a clone, of which nothing is needed yet.
func (g *Graph) again(t *testing.T) *Graph {
	t.Helper()
	return of(t, g.View().Clone())
}

func pair(name string, v api.Value) api.Pair { return api.Pair{Name: name, Value: v} }

// node and edge are things that must be made.
func (g *Graph) node(t *testing.T, labels string, props ...api.Pair) uint64 {
	t.Helper()
	id, e := g.AddNode(strings.Fields(labels), props)
	if e != api.OK {
		t.Fatalf("AddNode: %d", e)
	}
	return id
}

func (g *Graph) edge(t *testing.T, typ string, from, to uint64, props ...api.Pair) uint64 {
	t.Helper()
	id, e := g.AddEdge(typ, from, to, props)
	if e != api.OK {
		t.Fatalf("AddEdge: %d", e)
	}
	return id
}

// needs tells what must be needed, in order; what is alone ends with !.
func (g *Graph) needs(t *testing.T, want string) {
	t.Helper()
	var got []string
	for _, n := range g.View().Needs() {
		if n.Alone {
			n.What += "!"
		}
		got = append(got, n.What)
	}
	if strings.Join(got, " ") != want {
		t.Errorf("needs are %q, not %q", strings.Join(got, " "), want)
	}
}

// must tells what an act must come to.
func must(t *testing.T, e, want api.Errno) {
	t.Helper()
	if e != want {
		t.Errorf("%d, not %d", e, want)
	}
}

func TestNodesAndEdges(t *testing.T) {
	g := newGraph(t)
	a := g.node(t, "Person Adult Person", pair("name", value.Text("Ann")), pair("age", value.Int(7)), pair("gone", value.Int(1)), pair("gone", api.Value{}))
	b := g.node(t, "")
	e := g.edge(t, "knows", a, b, pair("since", value.Bool(true)))
	if a != 1 || b != 2 || e != 1 {
		t.Errorf("numbers %d, %d, %d", a, b, e)
	}
	want := api.Info{ID: 1, Labels: []string{"Adult", "Person"}, Props: []api.Pair{pair("age", value.Int(7)), pair("name", value.Text("Ann"))}}
	if got, e := g.Info(false, a); e != api.OK || !reflect.DeepEqual(got, want) {
		t.Errorf("Info: %v, %d", got, e)
	}
	want = api.Info{ID: 1, Edge: true, Type: "knows", From: 1, To: 2, Props: []api.Pair{pair("since", value.Bool(true))}}
	if got, e := g.Info(true, e); e != api.OK || !reflect.DeepEqual(got, want) {
		t.Errorf("Info: %v, %d", got, e)
	}
	for _, id := range []uint64{0, 3, 1 << 63} {
		if got, e := g.Info(false, id); e != api.ErrNone || !reflect.DeepEqual(got, api.Info{}) {
			t.Errorf("Info of %d: %v, %d", id, got, e)
		}
	}
	for kind, want := range [][]string{{"Adult", "Person"}, {"knows"}, {"age", "gone", "name", "since"}} {
		if got := g.Names(kind); !slices.Equal(got, want) {
			t.Errorf("Names of %d are %q", kind, got)
		}
	}
	for edge, want := range map[bool][]uint64{false: {1, 2}, true: {1}} {
		if got, e := g.All(edge); e != api.OK || !slices.Equal(got, want) {
			t.Errorf("All is %v, %d", got, e)
		}
	}
	if got, e := g.Labelled("Person"); e != api.OK || !slices.Equal(got, []uint64{1}) {
		t.Errorf("Labelled: %v, %d", got, e)
	}
	if got, e := g.Labelled("none"); e != api.OK || got != nil {
		t.Errorf("Labelled: %v, %d", got, e)
	}
}

func TestKeysOfTheStore(t *testing.T) {
	g := newGraph(t)
	a, b := g.node(t, "L", pair("k", value.Int(5))), g.node(t, "")
	g.edge(t, "T", a, b)
	must(t, g.AddIndex("L", "k", api.IndexUnique), api.OK)
	must(t, g.Drop(false, g.node(t, "")), api.OK)
	want := map[string]string{
		"N": "\x01\x01L\x01\x01T\x01\x01k", "X": "\x01\x00\x00\x02",
		"n\x11\x01": "\x00\x01\x00\x01\x00" + value.Put(value.Int(5)), "n\x11\x02": "\x00\x00\x00", "e\x11\x01": "\x01\x00\x01\x02\x00",
		"o\x11\x01\x10\x11\x01": "", "i\x11\x02\x10\x11\x01": "", "l\x10\x11\x01": "",
		"r\x10\x10" + value.Part(value.Int(5)) + "\x11\x01": "", "u\x10\x10" + value.Part(value.Int(5)): "\x01",
		"c\x00": "\x04", "c\x01": "\x02", "f\x00\x11\x03": "",
	}
	l, e := g.View().Range("", "", 99)
	must(t, e, api.OK)
	for _, entry := range l {
		if got, ok := want[entry.Key]; !ok || got != entry.Value {
			t.Errorf("%q has %q, not %q", entry.Key, entry.Value, got)
		}
		delete(want, entry.Key)
	}
	if len(want) != 0 {
		t.Errorf("there is no %q", want)
	}
}

func TestNumbersAreGivenAgain(t *testing.T) {
	g := newGraph(t)
	for range 5 {
		g.node(t, "")
	}
	for _, id := range []uint64{4, 2, 5} {
		must(t, g.Drop(false, id), api.OK)
	}
	for _, want := range []uint64{2, 4, 5, 6} {
		if id := g.node(t, ""); id != want {
			t.Errorf("the number is %d, not %d", id, want)
		}
	}
	if id := g.edge(t, "T", 1, 1); id != 1 {
		t.Errorf("the first edge is %d", id)
	}
}

func TestAddNodeErrors(t *testing.T) {
	base := newGraph(t)
	base.node(t, "U", pair("k", value.Int(1)))
	must(t, base.AddIndex("U", "k", api.IndexUnique), api.OK)
	must(t, base.AddIndex("R", "k", api.IndexRange), api.OK)
	nine := "A B C D E F G H I"
	var much []api.Pair
	for i := range api.MostProps + 1 {
		much = append(much, pair(fmt.Sprint("p", i), value.Int(1)))
	}
	great := []api.Pair{pair("a", value.Text(strings.Repeat("x", 2000))), pair("b", value.Text(strings.Repeat("x", 2000))), pair("c", value.Text(strings.Repeat("x", 100)))}
	for i, c := range []struct {
		labels string
		props  []api.Pair
		want   api.Errno
	}{
		{"A 1", nil, api.ErrInput}, {nine, nil, api.ErrInput}, {nine[:15] + " A", nil, api.OK}, {"A", []api.Pair{pair("", value.Int(1))}, api.ErrInput},
		{"A", []api.Pair{pair("k", api.Value{Kind: 9})}, api.ErrInput}, {"A", []api.Pair{pair("k", api.Value{N: 1})}, api.ErrInput}, {"A", much, api.ErrInput}, {"A", much[:16], api.OK},
		{"A", append(slices.Clone(much[:16]), pair("p3", api.Value{}), pair("q", value.Int(1))), api.OK}, {"A", append(slices.Clone(much), pair("p3", api.Value{})), api.ErrInput},
		{"R", []api.Pair{pair("k", value.Text(strings.Repeat("x", 33)))}, api.ErrInput}, {"U", []api.Pair{pair("k", value.Int(1))}, api.ErrTwice}, {"U", []api.Pair{pair("k", value.Int(2))}, api.OK},
		{"R U", []api.Pair{pair("k", value.Text(strings.Repeat("x", 33)))}, api.ErrInput}, {"R", []api.Pair{pair("k", value.Int(1))}, api.OK}, {"A", great, api.ErrMuch}, {"U", append(great, pair("k", value.Int(1))), api.ErrTwice},
		{"A", great[:2], api.OK},
	} {
		g := base.again(t)
		id, e := g.AddNode(strings.Fields(c.labels), c.props)
		if e != c.want || (id != 0) != (e == api.OK) {
			t.Errorf("case %d: %d, %d, not %d", i, id, e, c.want)
		}
	}
}

func TestTooManyNames(t *testing.T) {
	g := newGraph(t)
	for i := range api.MostNames {
		if _, e := g.name(api.NameLabel, fmt.Sprint("n", i)); e != api.OK {
			t.Fatal(e)
		}
		g.name(api.NameType, fmt.Sprint("n", i))
		g.name(api.NameKey, fmt.Sprint("n", i))
	}
	_, e := g.again(t).AddNode([]string{"more"}, nil)
	must(t, e, api.ErrFull)
	_, e = g.again(t).AddNode([]string{"n1"}, []api.Pair{pair("more", value.Int(1))})
	must(t, e, api.ErrFull)
	g.node(t, "n1", pair("n2", value.Int(1)))
	_, e = g.again(t).AddEdge("more", 9, 9, nil)
	must(t, e, api.ErrFull)
	must(t, g.again(t).Set(false, 1, pair("more", value.Int(1))), api.ErrFull)
	must(t, g.again(t).Label(1, "more", true), api.ErrFull)
	must(t, g.again(t).AddIndex("n1", "more", 1), api.ErrFull)
	must(t, g.again(t).AddIndex("more", "1", 1), api.ErrFull)
}

func TestAddEdgeErrors(t *testing.T) {
	base := newGraph(t)
	base.node(t, "")
	for i, c := range []struct {
		typ      string
		from, to uint64
		p        api.Pair
		want     api.Errno
	}{
		{"1", 9, 9, pair("k", value.Int(1)), api.ErrInput}, {"T", 9, 9, pair("1", value.Int(1)), api.ErrInput}, {"T", 9, 9, pair("k", api.Value{Kind: 9}), api.ErrInput},
		{"T", 9, 1, pair("k", value.Int(1)), api.ErrNone}, {"T", 1, 9, pair("k", value.Int(1)), api.ErrNone}, {"T", 1, 1, pair("k", value.Int(1)), api.OK},
	} {
		id, e := base.again(t).AddEdge(c.typ, c.from, c.to, []api.Pair{c.p})
		if e != c.want || (id != 0) != (e == api.OK) {
			t.Errorf("case %d: %d, %d, not %d", i, id, e, c.want)
		}
	}
	great := []api.Pair{pair("a", value.Text(strings.Repeat("x", 2000))), pair("b", value.Text(strings.Repeat("x", 2000))), pair("c", value.Text(strings.Repeat("x", 100)))}
	_, e := base.again(t).AddEdge("T", 1, 1, great)
	must(t, e, api.ErrMuch)
}

func TestSet(t *testing.T) {
	base := newGraph(t)
	base.node(t, "U R", pair("k", value.Int(1)))
	base.node(t, "U", pair("k", value.Int(2)))
	base.edge(t, "T", 1, 2)
	must(t, base.AddIndex("U", "k", api.IndexUnique), api.OK)
	must(t, base.AddIndex("R", "k", api.IndexRange), api.OK)
	long := value.Text(strings.Repeat("x", 33))
	for i, c := range []struct {
		edge bool
		id   uint64
		p    api.Pair
		want api.Errno
	}{
		{false, 9, pair("1", long), api.ErrNone}, {true, 9, pair("k", long), api.ErrNone}, {false, 1, pair("1", long), api.ErrInput}, {false, 1, pair("m", api.Value{N: 1}), api.ErrInput},
		{false, 1, pair("k", long), api.ErrInput}, {false, 1, pair("k", value.Int(2)), api.ErrTwice}, {false, 1, pair("k", value.Int(1)), api.OK}, {true, 1, pair("k", long), api.OK},
		{false, 2, pair("k", api.Value{}), api.OK}, {false, 2, pair("other", long), api.OK},
	} {
		must(t, base.again(t).Set(c.edge, c.id, c.p), c.want)
		if t.Failed() {
			t.Fatalf("case %d", i)
		}
	}
	must(t, base.Set(false, 1, pair("k", value.Int(5))), api.OK)
	if got, _ := base.Between("U", "k", api.Value{}, api.Value{}); !slices.Equal(got, []uint64{2, 1}) {
		t.Errorf("Between is %v", got)
	}
	must(t, base.Set(false, 2, pair("k", value.Int(1))), api.OK)
	must(t, base.Set(false, 2, pair("k", api.Value{})), api.OK)
	if got, _ := base.Between("U", "k", api.Value{}, api.Value{}); !slices.Equal(got, []uint64{1}) {
		t.Errorf("Between is %v", got)
	}
	for _, name := range []string{"a", "b"} {
		must(t, base.Set(true, 1, pair(name, value.Text(strings.Repeat("x", 2000)))), api.OK)
	}
	must(t, base.again(t).Set(true, 1, pair("c", value.Text(strings.Repeat("x", 100)))), api.ErrMuch)
	for i := range 14 {
		must(t, base.Set(true, 1, pair(fmt.Sprint("p", i), value.Bool(true))), api.OK)
	}
	must(t, base.again(t).Set(true, 1, pair("q", value.Bool(true))), api.ErrInput)
	must(t, base.again(t).Set(true, 1, pair("q", api.Value{})), api.OK)
}

func TestLabel(t *testing.T) {
	g := newGraph(t)
	g.node(t, "A", pair("k", value.Int(1)))
	g.node(t, "U", pair("k", value.Int(1)))
	must(t, g.AddIndex("U", "k", api.IndexUnique), api.OK)
	must(t, g.again(t).Label(9, "1", true), api.ErrNone)
	must(t, g.again(t).Label(1, "1", true), api.ErrInput)
	must(t, g.again(t).Label(1, "1", false), api.ErrInput)
	must(t, g.again(t).Label(1, "U", true), api.ErrTwice)
	must(t, g.Label(1, "A", true), api.OK)
	must(t, g.Label(1, "none", false), api.OK)
	must(t, g.Label(2, "U", false), api.OK)
	must(t, g.Label(1, "U", true), api.OK)
	must(t, g.again(t).Label(2, "U", true), api.ErrTwice)
	if x, _ := g.Info(false, 1); !slices.Equal(x.Labels, []string{"A", "U"}) {
		t.Errorf("labels are %q", x.Labels)
	}
	if got, _ := g.Between("U", "k", api.Value{}, api.Value{}); !slices.Equal(got, []uint64{1}) {
		t.Errorf("Between is %v", got)
	}
	if got, _ := g.Labelled("U"); !slices.Equal(got, []uint64{1}) {
		t.Errorf("Labelled is %v", got)
	}
	for i := range 6 {
		must(t, g.Label(1, fmt.Sprint("l", i), true), api.OK)
	}
	must(t, g.Label(1, "U", true), api.OK)
	must(t, g.again(t).Label(1, "l9", true), api.ErrInput)
}

func TestLabelOfTooMuch(t *testing.T) {
	g := newGraph(t)
	g.node(t, "", pair("a", value.Text(strings.Repeat("x", 2000))), pair("b", value.Text(strings.Repeat("x", 2000))), pair("c", value.Text(strings.Repeat("x", 82))))
	must(t, g.Label(1, "L", true), api.ErrMuch)
}

func TestDrop(t *testing.T) {
	g := newGraph(t)
	a, b := g.node(t, "L", pair("k", value.Int(1))), g.node(t, "L")
	must(t, g.AddIndex("L", "k", api.IndexUnique), api.OK)
	e := g.edge(t, "T", a, b)
	self := g.edge(t, "T", b, b)
	before := g.View().Changes()
	must(t, g.Drop(false, 9), api.ErrNone)
	must(t, g.Drop(true, 9), api.ErrNone)
	must(t, g.Drop(false, a), api.ErrUsed)
	must(t, g.Drop(false, b), api.ErrUsed)
	if !slices.Equal(g.View().Changes(), before) {
		t.Error("something is changed")
	}
	must(t, g.Drop(true, e), api.OK)
	must(t, g.Drop(false, a), api.OK)
	must(t, g.Drop(false, b), api.ErrUsed)
	must(t, g.Drop(true, self), api.OK)
	must(t, g.Drop(false, b), api.OK)
	l, _ := g.View().Range("", "", 99)
	var keys []string
	for _, entry := range l {
		keys = append(keys, entry.Key)
	}
	want := []string{"N", "X", "c\x00", "c\x01", "f\x00\x11\x01", "f\x00\x11\x02", "f\x01\x11\x01", "f\x01\x11\x02"}
	if !slices.Equal(keys, want) {
		t.Errorf("there is %q", keys)
	}
}

func TestBeside(t *testing.T) {
	g := newGraph(t)
	for range 3 {
		g.node(t, "")
	}
	g.edge(t, "B", 1, 2)
	g.edge(t, "A", 1, 3)
	g.edge(t, "B", 1, 1)
	g.edge(t, "A", 2, 1)
	ids := func(id uint64, out bool, typ string) []uint64 {
		t.Helper()
		l, e := g.Beside(id, out, typ)
		must(t, e, api.OK)
		var all []uint64
		for _, x := range l {
			if want, _ := g.Info(true, x.ID); !reflect.DeepEqual(x, want) {
				t.Errorf("%v is not %v", x, want)
			}
			all = append(all, x.ID)
		}
		return all
	}
	for i, c := range []struct {
		id   uint64
		out  bool
		typ  string
		want []uint64
	}{
		{1, true, "", []uint64{1, 3, 2}}, {1, false, "", []uint64{3, 4}}, {1, true, "A", []uint64{2}}, {1, true, "B", []uint64{1, 3}}, {3, true, "", nil}, {3, false, "", []uint64{2}}, {1, true, "none", nil},
	} {
		if got := ids(c.id, c.out, c.typ); !slices.Equal(got, c.want) {
			t.Errorf("case %d: %v, not %v", i, got, c.want)
		}
	}
	for _, typ := range []string{"", "none", "A"} {
		if l, e := g.Beside(9, true, typ); l != nil || e != api.ErrNone {
			t.Errorf("Beside none: %v, %d", l, e)
		}
	}
}

func TestIndexes(t *testing.T) {
	g := newGraph(t)
	g.node(t, "L", pair("k", value.Int(3)))
	g.node(t, "L", pair("k", value.Text("a")))
	g.node(t, "L")
	g.node(t, "M", pair("k", value.Int(3)))
	if g.Indexed("L", "k") {
		t.Error("there is an index")
	}
	_, e := g.Between("L", "k", api.Value{}, api.Value{})
	must(t, e, api.ErrNone)
	must(t, g.again(t).AddIndex("1", "k", 1), api.ErrInput)
	must(t, g.again(t).AddIndex("L", "1", 1), api.ErrInput)
	must(t, g.again(t).AddIndex("L", "k", 0), api.ErrInput)
	must(t, g.again(t).AddIndex("L", "k", 3), api.ErrInput)
	must(t, g.AddIndex("L", "k", api.IndexRange), api.OK)
	must(t, g.again(t).AddIndex("L", "k", api.IndexUnique), api.ErrInput)
	for i, c := range []struct {
		low, high api.Value
		want      []uint64
	}{
		{api.Value{}, api.Value{}, []uint64{1, 2}}, {value.Int(4), api.Value{}, []uint64{2}}, {value.Int(3), value.Int(3), []uint64{1}}, {value.Text("b"), api.Value{}, nil},
	} {
		if got, e := g.Between("L", "k", c.low, c.high); e != api.OK || !slices.Equal(got, c.want) {
			t.Errorf("case %d: %v, %d", i, got, e)
		}
	}
	must(t, g.again(t).DropIndex("M", "k"), api.ErrNone)
	must(t, g.again(t).DropIndex("none", "k"), api.ErrNone)
	must(t, g.DropIndex("L", "k"), api.OK)
	must(t, g.DropIndex("L", "k"), api.ErrNone)
	if g.Indexed("L", "k") {
		t.Error("the index is still there")
	}
	g.node(t, "L", pair("k", value.Int(3)))
	must(t, g.again(t).AddIndex("L", "k", api.IndexUnique), api.ErrTwice)
	g.node(t, "M", pair("k", value.Text(strings.Repeat("x", 33))))
	must(t, g.again(t).AddIndex("M", "k", api.IndexRange), api.ErrInput)
	for i := range api.MostIndexes {
		must(t, g.AddIndex("Q", fmt.Sprint("k", i), api.IndexRange), api.OK)
	}
	must(t, g.AddIndex("R", "k", api.IndexRange), api.ErrFull)
	for i := range api.MostIndexes {
		if !g.Indexed("Q", fmt.Sprint("k", i)) {
			t.Errorf("index %d is not there", i)
		}
	}
}

func TestNeeds(t *testing.T) {
	base := newGraph(t)
	base.node(t, "L M", pair("k", value.Int(1)))
	base.node(t, "L", pair("k", value.Int(2)))
	base.edge(t, "T", 1, 2)
	must(t, base.AddIndex("L", "k", api.IndexUnique), api.OK)
	g := base
	fresh := func() *Graph { g = base.again(t); return g }
	fresh().Info(false, 1)
	g.needs(t, "s n1")
	fresh().Info(true, 9)
	g.needs(t, "s e9")
	fresh().Names(0)
	g.needs(t, "s")
	fresh().Indexed("L", "k")
	g.needs(t, "s")
	fresh().Beside(1, true, "")
	g.needs(t, "s n1 e1")
	fresh().Beside(9, true, "")
	g.needs(t, "s n9")
	fresh().Labelled("M")
	g.needs(t, "s l1")
	fresh().Labelled("none")
	g.needs(t, "s")
	fresh().Between("L", "k", api.Value{}, api.Value{})
	g.needs(t, "s l0")
	fresh().All(true)
	g.needs(t, "s d")
	fresh().AddNode([]string{"M", "L"}, []api.Pair{pair("k", value.Int(3))})
	g.needs(t, "s d! n3! l0! l1!")
	fresh().AddNode([]string{"new"}, nil)
	g.needs(t, "s! d! n3! l2!")
	fresh().AddNode([]string{"1"}, nil)
	g.needs(t, "s")
	fresh().AddNode([]string{"L", "M"}, []api.Pair{pair("k", value.Int(1))})
	g.needs(t, "s d! n3! l0!")
	fresh().AddEdge("T", 2, 1, nil)
	g.needs(t, "s n2! n1! d! e2!")
	fresh().AddEdge("T", 2, 9, nil)
	g.needs(t, "s n2 n9")
	fresh().AddEdge("new", 9, 2, nil)
	g.needs(t, "s! n9")
	fresh().Set(false, 1, pair("k", value.Int(5)))
	g.needs(t, "s n1! l0!")
	fresh().Set(false, 1, pair("new", value.Int(5)))
	g.needs(t, "s! n1!")
	fresh().Set(true, 1, pair("k", value.Int(5)))
	g.needs(t, "s e1!")
	fresh().Set(false, 9, pair("k", value.Int(5)))
	g.needs(t, "s n9!")
	fresh().Label(2, "M", true)
	g.needs(t, "s n2! l1!")
	fresh().Label(1, "M", false)
	g.needs(t, "s n1! l1!")
	fresh().Label(1, "M", true)
	g.needs(t, "s n1")
	fresh().Label(9, "M", true)
	g.needs(t, "s n9")
	fresh().Drop(true, 1)
	g.needs(t, "s e1! n1! n2! d!")
	fresh().Drop(true, 9)
	g.needs(t, "s e9!")
	fresh().Drop(false, 1)
	g.needs(t, "s n1!")
	fresh().AddIndex("M", "k", 1)
	g.needs(t, "s! l1! n1")
	fresh().AddIndex("L", "k", 1)
	g.needs(t, "s")
	fresh().DropIndex("L", "k")
	g.needs(t, "s! l0!")
	fresh().DropIndex("M", "k")
	g.needs(t, "s")
	g = base.again(t)
	g.node(t, "L M")
	g = g.again(t)
	g.Drop(false, 3)
	g.needs(t, "s n3! l0! l1! d!")
	if OnNode(18446744073709551615) != "n18446744073709551615" || OnEdge(0) != "e0" || OnLabel(63) != "l63" {
		t.Error("what is held is named otherwise")
	}
}

func TestWhatOthersChangeInTheView(t *testing.T) {
	g := newGraph(t)
	other := of(t, g.View())
	g.View().Save()
	g.node(t, "A")
	if got, _ := other.Labelled("A"); !slices.Equal(got, []uint64{1}) {
		t.Errorf("Labelled is %v", got)
	}
	other.node(t, "B")
	if got := g.Names(api.NameLabel); !slices.Equal(got, []string{"A", "B"}) {
		t.Errorf("Names are %q", got)
	}
	g.View().Back(1)
	if got := g.Names(api.NameLabel); len(got) != 0 {
		t.Errorf("Names are %q", got)
	}
	if id := g.node(t, "C"); id != 1 {
		t.Errorf("the first node is %d", id)
	}
}

func TestErrorsOfTheStore(t *testing.T) {
	v, d := newVault(t)
	g := of(t, view.New(v))
	g.node(t, "L")
	calls := func(g *Graph) []api.Errno {
		_, e := g.Info(false, 1)
		_, e2 := g.Beside(1, true, "")
		_, e3 := g.Labelled("L")
		_, e4 := g.Between("L", "k", api.Value{}, api.Value{})
		_, e5 := g.All(false)
		_, e6 := g.AddNode(nil, nil)
		_, e7 := g.AddEdge("T", 1, 1, nil)
		return []api.Errno{e, e2, e3, e4, e5, e6, e7, g.Set(false, 1, api.Pair{}), g.Label(1, "L", true), g.Drop(false, 1), g.AddIndex("L", "k", 1), g.DropIndex("L", "k")}
	}
	d.Fail(0)
	for i, g := range []*Graph{nil, g, {}} {
		for k, e := range calls(g) {
			if e != api.ErrPower {
				t.Errorf("graph %d, call %d: %d", i, k, e)
			}
		}
		if g.Names(0) != nil || g.Indexed("L", "k") {
			t.Errorf("graph %d tells something", i)
		}
	}
	var none *Graph
	if none.View() != nil || g.View() == nil {
		t.Error("View is another one")
	}
	for _, x := range []*view.View{nil, view.New(nil), view.New(v)} {
		if g, e := Of(x); g != nil || e != api.ErrPower {
			t.Errorf("Of: %d", e)
		}
	}
}

func TestBrokenKeys(t *testing.T) {
	v, _ := newVault(t)
	for _, key := range []string{"N", "X"} {
		x := view.New(v)
		x.Put(key, "\xff")
		if g, e := Of(x); g != nil || e != api.ErrIntegrity {
			t.Errorf("Of: %d", e)
		}
	}
	g := of(t, view.New(v))
	g.node(t, "L")
	g.edge(t, "T", 1, 1)
	for key, ask := range map[string]func(g *Graph) api.Errno{
		"n\x11\x01":             func(g *Graph) api.Errno { _, e := g.Info(false, 1); return e },
		"e\x11\x01":             func(g *Graph) api.Errno { _, e := g.Beside(1, true, ""); return e },
		"c\x00":                 func(g *Graph) api.Errno { _, e := g.AddNode(nil, nil); return e },
		"nx":                    func(g *Graph) api.Errno { _, e := g.All(false); return e },
		"l\x10x":                func(g *Graph) api.Errno { _, e := g.Labelled("L"); return e },
		"o\x11\x01\x10\x11\x09": func(g *Graph) api.Errno { _, e := g.Beside(1, true, "T"); return e },
		"l\x10\x11\x09":         func(g *Graph) api.Errno { return g.AddIndex("L", "k", 1) },
		"f\x01x":                func(g *Graph) api.Errno { _, e := g.AddEdge("T", 1, 1, nil); return e },
	} {
		broken := g.again(t)
		broken.View().Put(key, "\xff")
		if e := ask(broken); e != api.ErrIntegrity {
			t.Errorf("%q: %d", key, e)
		}
	}
}

// TestAgainstWhatIsKnown does acts by chance, and looks by what each node and edge says whether it is found.
func TestAgainstWhatIsKnown(t *testing.T) {
	v, _ := newVault(t)
	chance := rand.New(rand.NewSource(7))
	x := view.New(v)
	labels, keys := []string{"A", "B", "C"}, []string{"j", "k"}
	of(t, x).AddIndex("A", "k", api.IndexUnique)
	of(t, x).AddIndex("B", "k", api.IndexRange)
	for i := range 1500 {
		clone := x.Clone()
		g := of(t, clone)
		a, b := uint64(chance.Intn(25)), uint64(chance.Intn(25))
		p := pair(keys[chance.Intn(2)], []api.Value{{}, value.Int(int64(chance.Intn(9))), value.Text("t"), value.Bool(true)}[chance.Intn(4)])
		var e api.Errno
		switch chance.Intn(8) {
		case 0, 1:
			_, e = g.AddNode(labels[:chance.Intn(4)], []api.Pair{p})
		case 2, 3:
			_, e = g.AddEdge("T", a, b, []api.Pair{p})
		case 4:
			e = g.Set(a%2 == 0, b, p)
		case 5:
			e = g.Label(a, labels[b%3], b%2 == 0)
		case 6:
			e = g.Drop(true, a)
		case 7:
			e = g.Drop(false, a)
		}
		if e != api.OK {
			if e != api.ErrNone && e != api.ErrTwice && e != api.ErrUsed {
				t.Fatalf("act %d: %d", i, e)
			}
			continue
		}
		x = clone
		if i%40 == 0 {
			if e := v.Commit(x.Changes()); e != api.OK && e != api.ErrInput {
				t.Fatal(e)
			}
			x = view.New(v)
			consistent(t, of(t, x))
		}
	}
}

// consistent looks whether nodes and edges are found by just what they say.
func consistent(t *testing.T, g *Graph) {
	t.Helper()
	nodes, _ := g.All(false)
	edges, _ := g.All(true)
	for _, label := range []string{"A", "B", "C"} {
		var want, valued []uint64
		for _, id := range nodes {
			x, _ := g.Info(false, id)
			if !slices.Contains(x.Labels, label) {
				continue
			}
			want = append(want, id)
			if slices.ContainsFunc(x.Props, func(p api.Pair) bool { return p.Name == "k" }) {
				valued = append(valued, id)
			}
		}
		if got, _ := g.Labelled(label); !slices.Equal(got, want) {
			t.Fatalf("of %s are %v, not %v", label, got, want)
		}
		if got, e := g.Between(label, "k", api.Value{}, api.Value{}); e == api.OK {
			slices.Sort(got)
			if !slices.Equal(got, valued) {
				t.Fatalf("of %s are found %v, not %v", label, got, valued)
			}
		}
	}
	beside := 0
	for _, id := range nodes {
		for _, out := range []bool{true, false} {
			l, e := g.Beside(id, out, "")
			must(t, e, api.OK)
			beside += len(l)
			for _, x := range l {
				if out && x.From != id || !out && x.To != id {
					t.Fatalf("%v is beside %d", x, id)
				}
			}
		}
	}
	if beside != 2*len(edges) {
		t.Fatalf("%d edges beside nodes, of %d", beside, len(edges))
	}
}
