package wait

import (
	"math"
	"slices"
	"testing"

	"lodestone/api"
)

func TestSetAndFor(t *testing.T) {
	g := New()
	if g.Waits() {
		t.Error("somebody waits")
	}
	l := []int{5, 3, 5, 0, -1, api.MostSessions, math.MinInt, 15}
	g.Set(0, l)
	l[0] = 9
	if got := g.For(0); !slices.Equal(got, []int{3, 5, 15}) || !g.Waits() {
		t.Errorf("For is %v", got)
	}
	g.For(0)[0] = 9
	if got := g.For(0); got[0] != 3 {
		t.Error("For is not the caller's own")
	}
	g.Set(0, []int{0})
	if len(g.For(0)) != 0 || g.Waits() {
		t.Error("it waits for itself")
	}
	g.Set(1, []int{2})
	g.Set(1, nil)
	for _, who := range []int{-1, api.MostSessions, math.MaxInt} {
		g.Set(who, []int{1})
		if g.For(who) != nil || g.Circle(who) != nil || g.Victim(who, nil) != -1 {
			t.Errorf("%d waits", who)
		}
	}
	if g.Waits() {
		t.Error("somebody waits")
	}
}

func TestCircle(t *testing.T) {
	g := New()
	g.Set(0, []int{1})
	g.Set(1, []int{2, 4})
	g.Set(2, []int{0})
	g.Set(3, []int{0})
	g.Set(4, []int{5})
	g.Set(6, []int{7})
	g.Set(7, []int{6})
	for who, want := range [][]int{{0, 1, 2}, {0, 1, 2}, {0, 1, 2}, nil, nil, nil, {6, 7}, {6, 7}, nil} {
		if got := g.Circle(who); !slices.Equal(got, want) {
			t.Errorf("the circle of %d is %v", who, got)
		}
	}
	g.Set(5, []int{1})
	if got := g.Circle(4); !slices.Equal(got, []int{0, 1, 2, 4, 5}) {
		t.Errorf("two circles together are %v", got)
	}
	g.Set(2, nil)
	if got := g.Circle(0); got != nil {
		t.Errorf("the circle of 0 is %v", got)
	}
}

func TestVictim(t *testing.T) {
	g := New()
	g.Set(0, []int{1})
	g.Set(1, []int{2})
	g.Set(2, []int{0})
	g.Set(3, []int{0})
	for i, c := range []struct {
		who  int
		ages []uint64
		want int
	}{
		{0, []uint64{5, 9, 7, 99}, 1}, {1, []uint64{5, 9, 9}, 2}, {2, []uint64{5, 4}, 0}, {0, nil, 2}, {0, []uint64{0, 0}, 2}, {0, []uint64{math.MaxUint64}, 0}, {3, []uint64{1, 2, 3, 4}, -1}, {9, nil, -1},
	} {
		if got := g.Victim(c.who, c.ages); got != c.want {
			t.Errorf("case %d: %d, not %d", i, got, c.want)
		}
	}
}

func TestNone(t *testing.T) {
	var g *Graph
	g.Set(0, []int{1})
	if g.For(0) != nil || g.Circle(0) != nil || g.Victim(0, nil) != -1 || g.Waits() {
		t.Error("of none something is told")
	}
}
