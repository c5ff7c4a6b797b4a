package dump

import (
	"reflect"
	"testing"

	"lodestone/api"
	"lodestone/device"
	"lodestone/disk"
	"lodestone/graph"
	"lodestone/value"
	"lodestone/vault"
	"lodestone/view"
)

func newGraph(t *testing.T) (*graph.Graph, *disk.Disk) {
	t.Helper()
	d, _ := disk.New(100, nil)
	dev, e := device.New("a master key of thirty-two bytes", d)
	if e != api.OK {
		t.Fatal(e)
	}
	v, e := vault.Open(d, dev, nil, api.Setup{Log: 8, Cache: 16})
	if e != api.OK {
		t.Fatal(e)
	}
	g, e := graph.Of(view.New(v))
	if e != api.OK {
		t.Fatal(e)
	}
	return g, d
}

// small is a graph of three nodes and two edges.
func small(t *testing.T) *graph.Graph {
	t.Helper()
	g, _ := newGraph(t)
	g.AddNode([]string{"B", "A"}, []api.Pair{{Name: "k", Value: value.Int(1)}})
	g.AddNode(nil, nil)
	g.AddNode(nil, nil)
	g.AddEdge("T", 1, 3, []api.Pair{{Name: "y", Value: value.Text("x")}})
	g.AddEdge("U", 3, 3, nil)
	g.Drop(false, 2)
	return g
}

func TestOf(t *testing.T) {
	want := api.Dump{
		Nodes: []api.Info{{ID: 1, Labels: []string{"A", "B"}, Props: []api.Pair{{Name: "k", Value: value.Int(1)}}}, {ID: 3}},
		Edges: []api.Info{{ID: 1, Edge: true, Type: "T", From: 1, To: 3, Props: []api.Pair{{Name: "y", Value: value.Text("x")}}}, {ID: 2, Edge: true, Type: "U", From: 3, To: 3}},
	}
	d, e := Of(small(t))
	if e != api.OK || !reflect.DeepEqual(d, want) || !Same(d, want) {
		t.Errorf("%v, %d", d, e)
	}
	g, _ := newGraph(t)
	if d, e := Of(g); e != api.OK || !Same(d, api.Dump{}) || len(d.Nodes)+len(d.Edges) != 0 {
		t.Errorf("an empty graph is %v, %d", d, e)
	}
}

func TestSame(t *testing.T) {
	base, _ := Of(small(t))
	again, _ := Of(small(t))
	if !Same(base, again) || !Same(api.Dump{Nodes: []api.Info{{Labels: []string{}}}}, api.Dump{Nodes: []api.Info{{}}, Edges: []api.Info{}}) {
		t.Error("graphs that are the same are not")
	}
	for i, change := range []func(d *api.Dump){
		func(d *api.Dump) { d.Nodes[1].ID = 9 }, func(d *api.Dump) { d.Nodes[0].Labels[1] = "C" }, func(d *api.Dump) { d.Nodes[0].Labels = nil },
		func(d *api.Dump) { d.Nodes[0].Props[0].Name = "j" }, func(d *api.Dump) { d.Nodes[0].Props[0].Value.N = 2 }, func(d *api.Dump) { d.Nodes[1].Edge = true },
		func(d *api.Dump) { d.Nodes = d.Nodes[:1] }, func(d *api.Dump) { d.Edges = nil }, func(d *api.Dump) { d.Edges[0].Type = "U" },
		func(d *api.Dump) { d.Edges[0].From = 3 }, func(d *api.Dump) { d.Edges[0].To = 1 }, func(d *api.Dump) { d.Nodes, d.Edges = d.Edges, d.Nodes },
	} {
		other, _ := Of(small(t))
		change(&other)
		if Same(base, other) || Same(other, base) {
			t.Errorf("case %d: graphs that are not the same are", i)
		}
	}
}

func TestFind(t *testing.T) {
	d, _ := Of(small(t))
	for _, edge := range []bool{false, true} {
		l := d.Nodes
		if edge {
			l = d.Edges
		}
		for _, want := range l {
			if x, ok := Find(d, edge, want.ID); !ok || !reflect.DeepEqual(x, want) {
				t.Errorf("Find of %d: %v, %v", want.ID, x, ok)
			}
		}
	}
	for _, id := range []uint64{0, 2, 9} {
		if x, ok := Find(d, false, id); ok || !reflect.DeepEqual(x, api.Info{}) {
			t.Errorf("Find of %d: %v", id, x)
		}
	}
	x, _ := Find(d, false, 1)
	x.Labels[0], x.Props[0].Name = "changed", "changed"
	if again, _ := Of(small(t)); !Same(d, again) {
		t.Error("what is found is not the caller's own")
	}
}

func TestErrorsOfTheStore(t *testing.T) {
	g, disk := newGraph(t)
	disk.Fail(0)
	for _, g := range []*graph.Graph{nil, g} {
		if d, e := Of(g); e != api.ErrPower || !reflect.DeepEqual(d, api.Dump{}) {
			t.Errorf("%v, %d", d, e)
		}
	}
	g, _ = newGraph(t)
	g.View().Put("e\x11\x01", "no edge")
	if d, e := Of(g); e != api.ErrIntegrity || !reflect.DeepEqual(d, api.Dump{}) {
		t.Errorf("%v, %d", d, e)
	}
}
