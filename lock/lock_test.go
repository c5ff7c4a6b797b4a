package lock

import (
	"fmt"
	"math"
	"slices"
	"testing"

	"lodestone/api"
)

// take tells what Take must come to.
func take(t *testing.T, l *Table, who int, what string, alone bool, against ...int) {
	t.Helper()
	if got, e := l.Take(who, api.Need{What: what, Alone: alone}); e != api.OK || !slices.Equal(got, against) {
		t.Errorf("Take of %d: %v, %d, not %v", who, got, e, against)
	}
}

// holds tells who must hold a thing.
func holds(t *testing.T, l *Table, what string, alone bool, who ...int) {
	t.Helper()
	if got, one := l.Who(what); !slices.Equal(got, who) || one != alone {
		t.Errorf("%q is held by %v, %v, not %v", what, got, one, who)
	}
}

func TestManyLook(t *testing.T) {
	l := New()
	take(t, l, 5, "a", false)
	take(t, l, 2, "a", false)
	take(t, l, 2, "a", false)
	holds(t, l, "a", false, 2, 5)
	take(t, l, 9, "a", true, 2, 5)
	take(t, l, 2, "a", true, 5)
	holds(t, l, "a", false, 2, 5)
	if l.Held(2) != 1 || l.Held(9) != 0 || l.Len() != 1 {
		t.Errorf("%d and %d are held, %d in all", l.Held(2), l.Held(9), l.Len())
	}
	if l.Free(5) != 1 || l.Free(5) != 0 {
		t.Error("what is let go is something else")
	}
	take(t, l, 2, "a", true)
	holds(t, l, "a", true, 2)
	take(t, l, 5, "a", false, 2)
	take(t, l, 5, "a", true, 2)
	take(t, l, 2, "a", false)
	holds(t, l, "a", true, 2)
	take(t, l, 2, "b", true)
	if l.Held(2) != 2 || l.Len() != 2 || l.Free(2) != 2 || l.Len() != 0 {
		t.Errorf("%d are held", l.Len())
	}
	holds(t, l, "a", false)
	take(t, l, 5, "a", true)
}

func TestErrors(t *testing.T) {
	l := New()
	for _, who := range []int{-1, api.MostSessions, math.MaxInt, math.MinInt} {
		if got, e := l.Take(who, api.Need{What: "a"}); got != nil || e != api.ErrInput {
			t.Errorf("Take of %d: %v, %d", who, got, e)
		}
		if l.Free(who) != 0 || l.Held(who) != 0 {
			t.Errorf("%d holds something", who)
		}
	}
	if got, e := l.Take(0, api.Need{}); got != nil || e != api.ErrInput {
		t.Errorf("Take of nothing: %v, %d", got, e)
	}
	take(t, l, api.MostSessions-1, "a", true)
}

func TestMostHeld(t *testing.T) {
	l := New()
	take(t, l, 2, "b", true)
	for i := range api.MostHeld {
		take(t, l, 1, fmt.Sprint(i), false)
	}
	for _, what := range []string{"a", "b"} {
		if got, e := l.Take(1, api.Need{What: what}); got != nil || e != api.ErrMuch {
			t.Errorf("Take of one more: %v, %d", got, e)
		}
	}
	take(t, l, 1, "5", true)
	take(t, l, 2, "a", false)
	if l.Held(1) != api.MostHeld || l.Len() != api.MostHeld+2 || l.Free(1) != api.MostHeld {
		t.Errorf("%d are held", l.Held(1))
	}
	take(t, l, 1, "a", false)
}

func TestNone(t *testing.T) {
	var l *Table
	got, e := l.Take(0, api.Need{What: "a"})
	who, alone := l.Who("a")
	if got != nil || e != api.ErrInput || who != nil || alone || l.Free(0) != 0 || l.Held(0) != 0 || l.Len() != 0 {
		t.Error("of none something is told")
	}
	blank := new(Table)
	take(t, blank, 0, "a", true)
	holds(t, blank, "a", true, 0)
}
