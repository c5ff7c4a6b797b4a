package ring

import (
	"math"
	"testing"

	"lodestone/api"
)

var four = api.Ring{First: 2, Len: 4}

func TestMay(t *testing.T) {
	for n := -3; n < 10; n++ {
		if May(four, n) != (n >= 2 && n < 6) {
			t.Errorf("May of %d is %v", n, May(four, n))
		}
	}
	most := api.Ring{First: api.MostBlocks, Len: api.MostBlocks}
	if !May(most, api.MostBlocks) || !May(most, 2*api.MostBlocks-1) || May(most, 2*api.MostBlocks) || !May(api.Ring{Len: 1}, 0) {
		t.Error("the greatest or the least ring may not be")
	}
	for _, r := range []api.Ring{{First: -1, Len: 4}, {First: api.MostBlocks + 1, Len: 4}, {First: 2}, {First: 2, Len: -1}, {First: 2, Len: api.MostBlocks + 1}, {First: math.MaxInt, Len: math.MaxInt}} {
		for _, n := range []int{-1, 0, 2, 3, api.MostBlocks + 1, math.MaxInt} {
			if May(r, n) || On(r, n, 0) != -1 || Far(r, n, n) != -1 || Room(r, n, 0) != 0 {
				t.Errorf("%v may be", r)
			}
		}
	}
}

func TestOn(t *testing.T) {
	for _, c := range []struct{ place, k, want int }{
		{2, 0, 2}, {5, 1, 2}, {5, 2, 3}, {3, 4, 3}, {3, 41, 4}, {5, 0, 5}, {2, math.MaxInt, 5}, {5, math.MaxInt, 4},
		{1, 0, -1}, {6, 0, -1}, {2, -1, -1}, {2, math.MinInt, -1},
	} {
		if got := On(four, c.place, c.k); got != c.want {
			t.Errorf("On(%d, %d) is %d", c.place, c.k, got)
		}
	}
}

func TestFarIsOnTurnedRound(t *testing.T) {
	for from := 2; from < 6; from++ {
		for k := range 4 {
			if got := Far(four, from, On(four, from, k)); got != k {
				t.Errorf("Far from %d is %d, not %d", from, got, k)
			}
		}
	}
	if Far(four, 1, 2) != -1 || Far(four, 2, 6) != -1 || Far(four, 6, 6) != -1 {
		t.Error("places that are none of it are far")
	}
}

func TestRoom(t *testing.T) {
	for _, c := range []struct{ from, many, want int }{
		{2, 0, 4}, {5, 1, 3}, {3, 4, 0}, {3, 5, 0}, {3, -1, 0}, {1, 1, 0}, {6, 0, 0}, {2, math.MinInt, 0},
	} {
		if got := Room(four, c.from, c.many); got != c.want {
			t.Errorf("Room(%d, %d) is %d", c.from, c.many, got)
		}
	}
}
