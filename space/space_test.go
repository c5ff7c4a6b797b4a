package space

import (
	"math"
	"testing"
)

func TestTakeTheLeast(t *testing.T) {
	s := New(5, 2)
	if s.Free() != 3 || s.Many() != 0 {
		t.Errorf("free %d, taken %d", s.Free(), s.Many())
	}
	if s.Take() != 2 || s.Free() != 2 || s.Many() != 1 || !s.Taken(2) {
		t.Errorf("free %d, taken %d", s.Free(), s.Many())
	}
	if !s.Use(3) || s.Take() != 4 || s.Take() != -1 || s.Free() != 0 || s.Many() != 3 {
		t.Errorf("free %d, taken %d", s.Free(), s.Many())
	}
	if !s.Drop(3) || s.Taken(3) || !s.Drop(2) || s.Take() != 2 || s.Take() != 3 || s.Take() != -1 {
		t.Error("what was dropped is not the least again")
	}
}

func TestUseAndDrop(t *testing.T) {
	s := New(5, 2)
	for _, n := range []int{-1, 0, 1, 5, 6, math.MaxInt, math.MinInt} {
		if s.Use(n) || s.Drop(n) || s.Taken(n) {
			t.Errorf("%d is a place", n)
		}
	}
	if !s.Use(4) || s.Use(4) || !s.Taken(4) || s.Many() != 1 {
		t.Error("a place is taken twice")
	}
	if !s.Drop(4) || s.Drop(4) || s.Many() != 0 || s.Free() != 3 {
		t.Error("a place is dropped twice")
	}
}

func TestNewIsKeptWithin(t *testing.T) {
	for _, c := range []struct{ places, first, free, take int }{
		{0, 0, 0, -1}, {-5, 3, 0, -1}, {3, -5, 3, 0}, {3, 3, 0, -1}, {3, 9, 0, -1}, {1, 0, 1, 0},
		{math.MinInt, math.MinInt, 0, -1}, {math.MaxInt, math.MaxInt, 0, -1}, {math.MaxInt, 4, math.MaxInt - 4, 4},
	} {
		s := New(c.places, c.first)
		if free, take := s.Free(), s.Take(); free != c.free || take != c.take {
			t.Errorf("New(%d, %d): free %d, take %d", c.places, c.first, free, take)
		}
	}
	if s := New(math.MaxInt, 0); !s.Use(math.MaxInt-1) || s.Take() != 0 {
		t.Error("the last of many places may not be")
	}
}

func TestNone(t *testing.T) {
	var s *Space
	if s.Use(0) || s.Take() != -1 || s.Drop(0) || s.Taken(0) || s.Free() != 0 || s.Many() != 0 {
		t.Error("of none something is told")
	}
}
