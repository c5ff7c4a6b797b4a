package anchor

import (
	"math"
	"strings"
	"testing"

	"lodestone/api"
	"lodestone/code"
)

var sum = strings.Repeat("s", api.SumBytes)

// turning is an anchor with something in all it has.
func turning() api.Anchor {
	return api.Anchor{Gen: 300, Epoch: 5, Turn: true, Next: "key", Root: api.Ref{Place: 77, Sum: sum}, From: 2, Many: 9, Chain: strings.Repeat("c", api.SumBytes)}
}

func TestFirst(t *testing.T) {
	want := api.Anchor{Root: api.Ref{Place: -1}, Chain: strings.Repeat("\x00", api.SumBytes)}
	if First() != want || !May(First()) || Slot(First()) != 0 {
		t.Errorf("First is %v", First())
	}
}

func TestMay(t *testing.T) {
	yes := []func(*api.Anchor){
		func(a *api.Anchor) {},
		func(a *api.Anchor) { a.Root = api.Ref{Place: -1} },
		func(a *api.Anchor) { a.Root.Place = 0 },
		func(a *api.Anchor) { a.Root.Place = api.MostBlocks - 1 },
		func(a *api.Anchor) { a.From, a.Many = 0, 0 },
		func(a *api.Anchor) { a.From, a.Many = api.MostBlocks-1, api.MostBlocks-1 },
		func(a *api.Anchor) { a.Next = "" },
		func(a *api.Anchor) { a.Next = strings.Repeat("n", api.MostKey) },
		func(a *api.Anchor) { a.Turn, a.Next = false, "" },
		func(a *api.Anchor) { a.Gen, a.Epoch = math.MaxUint64, math.MaxUint32 },
	}
	for i, change := range yes {
		a := turning()
		change(&a)
		got, e := Get(Put(a))
		if !May(a) || got != a || e != api.OK || len(Put(a)) > api.AnchorMost {
			t.Errorf("case %d: %v, %d, %d bytes", i, got, e, len(Put(a)))
		}
	}
	no := []func(*api.Anchor){
		func(a *api.Anchor) { a.Root.Place = -1 },
		func(a *api.Anchor) { a.Root.Place = -2 },
		func(a *api.Anchor) { a.Root.Sum = "" },
		func(a *api.Anchor) { a.Root.Sum += "s" },
		func(a *api.Anchor) { a.Root.Place = api.MostBlocks },
		func(a *api.Anchor) { a.Root.Place = math.MinInt },
		func(a *api.Anchor) { a.From = -1 },
		func(a *api.Anchor) { a.From = api.MostBlocks },
		func(a *api.Anchor) { a.Many = -1 },
		func(a *api.Anchor) { a.Many = api.MostBlocks },
		func(a *api.Anchor) { a.Chain = "" },
		func(a *api.Anchor) { a.Chain += "c" },
		func(a *api.Anchor) { a.Turn = false },
		func(a *api.Anchor) { a.Next = strings.Repeat("n", api.MostKey+1) },
	}
	for i, change := range no {
		a := turning()
		change(&a)
		if May(a) || Put(a) != "" {
			t.Errorf("case %d may be", i)
		}
	}
}

func TestForm(t *testing.T) {
	a := turning()
	want := "lode\xac\x02\x00\x00\x00\x05\x01\x03key\x4e\x20" + sum + "\x02\x09" + a.Chain
	if Put(a) != want {
		t.Errorf("Put is %q", Put(a))
	}
	want = "lode\x00\x00\x00\x00\x00\x00\x00\x00\x00\x00\x00" + First().Chain
	if Put(First()) != want {
		t.Errorf("Put is %q", Put(First()))
	}
}

func TestGetErrors(t *testing.T) {
	whole := Put(turning())
	for n := range len(whole) {
		if a, e := Get(whole[:n]); a != (api.Anchor{}) || e != api.ErrShort {
			t.Errorf("Get of %d bytes: %d", n, e)
		}
	}
	stands := "lode\x00\x00\x00\x00\x00"
	much := code.Num(api.MostBlocks + 1)
	at := code.Num(api.MostBlocks)
	chain := First().Chain
	for i, c := range []struct {
		s    string
		want api.Errno
	}{
		{"lodf" + whole[4:], api.ErrForm}, {"lodf", api.ErrForm}, {whole + "x", api.ErrForm}, {"lode\x80\x00", api.ErrForm},
		{stands + "\x02", api.ErrForm},
		{stands + "\x01\x61", api.ErrForm},
		{stands + "\x00\x00" + much, api.ErrForm},
		{stands + "\x00\x00\x01\x21", api.ErrForm},
		{stands + "\x00\x00\x00\x00" + much, api.ErrForm},
		{stands + "\x00\x00\x00\x00\x00" + much, api.ErrForm},
		{stands + "\x00\x00\x00\x00\x00" + much + "\x80", api.ErrForm},
		{stands + "\x00\x00" + at + "\x20" + sum + "\x00\x00" + chain, api.OK},
		{stands + "\x00\x00\x01\x03abc\x00\x00" + chain, api.ErrForm},
		{stands + "\x00\x00\x00\x20" + sum + "\x00\x00" + chain, api.ErrForm},
		{stands + "\x00\x00\x00\x00" + at + "\x00" + chain, api.ErrForm},
		{stands + "\x00\x00\x00\x00" + at, api.ErrShort},
		{stands + "\x00\x00\x00\x00\x00" + at + chain, api.ErrForm},
		{stands + "\x00\x01n\x00\x00\x00\x00" + chain, api.ErrForm},
		{stands + "\x00\x00\x00\x00\x00\x00" + chain, api.OK},
	} {
		a, e := Get(c.s)
		if e != c.want || e != api.OK && a != (api.Anchor{}) {
			t.Errorf("case %d: %v, %d, not %d", i, a, e, c.want)
		}
	}
}

func TestSlot(t *testing.T) {
	for gen, want := range map[uint64]int{0: 0, 1: 1, 2: 0, 77: 1, math.MaxUint64: 1} {
		if got := Slot(api.Anchor{Gen: gen}); got != want {
			t.Errorf("Slot of %d is %d", gen, got)
		}
	}
}
