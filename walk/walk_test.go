package walk

import (
	"math"
	"math/rand"
	"reflect"
	"slices"
	"testing"

	"lodestone/api"
	"lodestone/device"
	"lodestone/disk"
	"lodestone/graph"
	"lodestone/vault"
	"lodestone/view"
)

func newGraph(t *testing.T, nodes int) (*graph.Graph, *disk.Disk) {
	t.Helper()
	d, _ := disk.New(600, nil)
	dev, e := device.New("a master key of thirty-two bytes", d)
	if e != api.OK {
		t.Fatal(e)
	}
	v, e := vault.Open(d, dev, nil, api.Setup{Log: 40, Cache: 64})
	if e != api.OK {
		t.Fatal(e)
	}
	g, e := graph.Of(view.New(v))
	if e != api.OK {
		t.Fatal(e)
	}
	for range nodes {
		g.AddNode(nil, nil)
	}
	return g, d
}

func edge(t *testing.T, g *graph.Graph, typ string, from, to uint64) {
	t.Helper()
	if _, e := g.AddEdge(typ, from, to, nil); e != api.OK {
		t.Fatal(e)
	}
}

func TestFromARing(t *testing.T) {
	g, _ := newGraph(t, 4)
	edge(t, g, "T", 1, 2)
	edge(t, g, "T", 2, 3)
	edge(t, g, "U", 3, 1)
	for i, c := range []struct {
		id   uint64
		typ  string
		out  bool
		most int
		want []api.Far
	}{
		{1, "", true, 16, []api.Far{{ID: 1}, {ID: 2, Far: 1}, {ID: 3, Far: 2}}}, {1, "", false, 16, []api.Far{{ID: 1}, {ID: 3, Far: 1}, {ID: 2, Far: 2}}},
		{1, "", true, 1, []api.Far{{ID: 1}, {ID: 2, Far: 1}}}, {1, "", true, 0, []api.Far{{ID: 1}}}, {1, "", true, math.MinInt, []api.Far{{ID: 1}}}, {3, "T", true, 9, []api.Far{{ID: 3}}},
		{1, "none", true, 9, []api.Far{{ID: 1}}}, {4, "", true, 9, []api.Far{{ID: 4}}}, {2, "", true, math.MaxInt, []api.Far{{ID: 2}, {ID: 3, Far: 1}, {ID: 1, Far: 2}}},
	} {
		if got, e := From(g, c.id, c.typ, c.out, c.most); e != api.OK || !slices.Equal(got, c.want) {
			t.Errorf("case %d: %v, %d", i, got, e)
		}
	}
	for _, most := range []int{0, 5} {
		if got, e := From(g, 9, "", true, most); got != nil || e != api.ErrNone {
			t.Errorf("From none: %v, %d", got, e)
		}
	}
}

func TestFromGoesSoFar(t *testing.T) {
	g, _ := newGraph(t, 20)
	for i := range uint64(19) {
		edge(t, g, "T", i+1, i+2)
	}
	got, e := From(g, 1, "", true, 99)
	if e != api.OK || len(got) != api.MostFar+1 || got[16] != (api.Far{ID: 17, Far: 16}) {
		t.Errorf("From is %v, %d", got, e)
	}
	if way, e := Way(g, 1, 17, "", 99); e != api.OK || len(way) != 17 {
		t.Errorf("Way is %v, %d", way, e)
	}
	if way, e := Way(g, 1, 18, "", 99); e != api.OK || way != nil {
		t.Errorf("Way is %v, %d", way, e)
	}
}

func TestMostFound(t *testing.T) {
	g, _ := newGraph(t, api.MostFound+1)
	for i := range uint64(api.MostFound - 1) {
		edge(t, g, "T", i+2, 1)
	}
	if got, e := From(g, 1, "", false, 1); e != api.OK || len(got) != api.MostFound {
		t.Errorf("From: %d, %d", len(got), e)
	}
	edge(t, g, "T", api.MostFound+1, 2)
	if got, e := From(g, 1, "", false, 1); e != api.OK || len(got) != api.MostFound {
		t.Errorf("From: %d, %d", len(got), e)
	}
	if got, e := From(g, 1, "", false, 2); got != nil || e != api.ErrMuch {
		t.Errorf("From: %d, %d", len(got), e)
	}
	if got, e := Way(g, 3, 1, "", 2); got != nil || e != api.ErrMuch {
		t.Errorf("Way: %v, %d", got, e)
	}
	if got, e := Way(g, 9999, 1, "", 2); got != nil || e != api.ErrNone {
		t.Errorf("Way: %v, %d", got, e)
	}
}

func TestWay(t *testing.T) {
	g, _ := newGraph(t, 8)
	for _, ends := range [][2]uint64{{1, 5}, {1, 3}, {1, 4}, {5, 6}, {4, 2}, {3, 7}, {6, 8}, {2, 8}, {7, 8}, {8, 1}, {1, 3}} {
		edge(t, g, "T", ends[0], ends[1])
	}
	edge(t, g, "U", 1, 8)
	for i, c := range []struct {
		from, to uint64
		typ      string
		most     int
		want     []uint64
	}{
		{1, 8, "T", 9, []uint64{1, 3, 7, 8}}, {1, 8, "", 9, []uint64{1, 8}}, {1, 8, "T", 2, nil}, {1, 8, "T", 3, []uint64{1, 3, 7, 8}}, {8, 2, "", 9, []uint64{8, 1, 4, 2}},
		{3, 3, "", 0, []uint64{3}}, {3, 7, "", 0, nil}, {3, 7, "U", 9, nil}, {3, 7, "none", 9, nil},
	} {
		if got, e := Way(g, c.from, c.to, c.typ, c.most); e != api.OK || !slices.Equal(got, c.want) {
			t.Errorf("case %d: %v, %d", i, got, e)
		}
	}
	for _, ends := range [][2]uint64{{1, 9}, {9, 1}, {9, 10}, {9, 9}} {
		if got, e := Way(g, ends[0], ends[1], "", 9); got != nil || e != api.ErrNone {
			t.Errorf("Way: %v, %d", got, e)
		}
	}
	h, _ := graph.Of(g.View().Clone())
	Way(h, 10, 9, "", 9)
	if needs := h.View().Needs(); len(needs) != 2 || needs[1].What != "n9" {
		t.Errorf("needs are %v", needs)
	}
}

func TestParts(t *testing.T) {
	g, _ := newGraph(t, 0)
	if got, e := Parts(g); len(got) != 0 || e != api.OK {
		t.Errorf("parts of nothing: %v, %d", got, e)
	}
	g, _ = newGraph(t, 8)
	edge(t, g, "T", 5, 2)
	edge(t, g, "T", 7, 7)
	edge(t, g, "U", 8, 5)
	edge(t, g, "T", 3, 4)
	edge(t, g, "T", 4, 3)
	want := [][]uint64{{1}, {2, 5, 8}, {3, 4}, {6}, {7}}
	if got, e := Parts(g); e != api.OK || !reflect.DeepEqual(got, want) {
		t.Errorf("parts are %v, %d", got, e)
	}
}

func TestErrorsOfTheStore(t *testing.T) {
	g, d := newGraph(t, 2)
	d.Fail(0)
	for i, g := range []*graph.Graph{nil, g} {
		a, e := From(g, 1, "", true, 9)
		b, e2 := Way(g, 1, 2, "", 9)
		c, e3 := Parts(g)
		if a != nil || b != nil || c != nil || e != api.ErrPower || e2 != api.ErrPower || e3 != api.ErrPower {
			t.Errorf("case %d: %d, %d, %d", i, e, e2, e3)
		}
	}
}

// TestAgainstAllWays holds what is found in a graph by chance against what is found by going all edges again and again.
func TestAgainstAllWays(t *testing.T) {
	chance := rand.New(rand.NewSource(2))
	for range 20 {
		g, _ := newGraph(t, 12)
		var pairs [][2]uint64
		for range chance.Intn(20) {
			a, b := uint64(1+chance.Intn(12)), uint64(1+chance.Intn(12))
			edge(t, g, "T", a, b)
			pairs = append(pairs, [2]uint64{a, b})
		}
		for from := range uint64(12) {
			far := map[uint64]int{from + 1: 0}
			for range 12 {
				for _, p := range pairs {
					if n, ok := far[p[0]]; ok {
						if m, ok := far[p[1]]; !ok || n+1 < m {
							far[p[1]] = n + 1
						}
					}
				}
			}
			got, e := From(g, from+1, "T", true, 16)
			if e != api.OK || len(got) != len(far) {
				t.Fatalf("From: %v, not %v, %d", got, far, e)
			}
			for i, x := range got {
				if far[x.ID] != x.Far || i > 0 && (got[i-1].Far > x.Far || got[i-1].Far == x.Far && got[i-1].ID >= x.ID) {
					t.Fatalf("From: %v, not %v", got, far)
				}
				way, e := Way(g, from+1, x.ID, "", 16)
				if e != api.OK || len(way) != x.Far+1 {
					t.Fatalf("Way: %v, %d", way, e)
				}
				for k := range x.Far {
					if !slices.Contains(pairs, [2]uint64{way[k], way[k+1]}) {
						t.Fatalf("Way: %v", way)
					}
				}
			}
		}
	}
}
