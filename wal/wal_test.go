package wal

import (
	"fmt"
	"slices"
	"strings"
	"testing"

	"lodestone/api"
	"lodestone/book"
	"lodestone/code"
	"lodestone/sha"
)

func text(n int) string { return strings.Repeat("t", n) }

// many is so many changes.
func many(n int) []api.Change {
	var l []api.Change
	for i := range n {
		l = append(l, api.Change{Key: fmt.Sprint("key", i), Value: fmt.Sprint(i)})
	}
	return l
}

func TestForm(t *testing.T) {
	l := []api.Change{{Key: "a", Value: "xy"}, {Key: "bc", Gone: true}, {Key: "d"}}
	want := "\x03\x00\x01a\x02xy\x01\x02bc\x00\x01d\x00"
	if Put(l) != want {
		t.Errorf("Put is %q", Put(l))
	}
}

func TestMay(t *testing.T) {
	for i, l := range [][]api.Change{
		{{Key: "a"}}, {{Key: text(api.MostKey), Value: text(api.MostValue)}}, {{Key: "a", Gone: true}}, many(api.MostChanges), {{Key: "a"}, {Key: "a"}},
	} {
		got, e := Get(Put(l))
		if !May(l) || e != api.OK || !slices.Equal(got, l) {
			t.Errorf("case %d: %d", i, e)
		}
	}
	for i, l := range [][]api.Change{
		nil, {}, {{}}, {{Key: "a"}, {Value: "v"}}, {{Key: text(api.MostKey + 1)}}, {{Key: "a", Value: text(api.MostValue + 1)}},
		{{Key: "a", Value: "v", Gone: true}}, many(api.MostChanges + 1),
	} {
		if May(l) || Put(l) != "" {
			t.Errorf("case %d may be", i)
		}
	}
}

// record is a record of just so many bytes.
func record(t *testing.T, bytes int) []api.Change {
	t.Helper()
	l := []api.Change{{Key: "a"}, {Key: "b"}, {Key: "c"}, {Key: "d"}, {Key: "e"}}
	for i := range l {
		for _, step := range []int{1000, 100, 10, 1} {
			for len(Put(l))+step <= bytes && Put(l) != "" && len(l[i].Value)+step <= api.MostValue {
				l[i].Value += text(step)
			}
		}
	}
	if len(Put(l)) != bytes {
		t.Fatalf("a record of %d bytes, not %d", len(Put(l)), bytes)
	}
	return l
}

func TestMostRecord(t *testing.T) {
	l := record(t, api.MostRecord)
	if got, e := Get(Put(l)); e != api.OK || !slices.Equal(got, l) {
		t.Errorf("Get of the most: %d", e)
	}
	l[4].Value += "t"
	if !May(l) || Put(l) != "" {
		t.Error("more than the most is put")
	}
	s := code.Num(5)
	for _, c := range l {
		s += code.Bool(false) + code.Text(c.Key) + code.Text(c.Value)
	}
	if got, e := Get(s); got != nil || e != api.ErrForm {
		t.Errorf("Get of %d bytes: %d", len(s), e)
	}
}

func TestGetErrors(t *testing.T) {
	whole := Put([]api.Change{{Key: "a", Value: "xy"}, {Key: "bc", Gone: true}})
	for n := range len(whole) {
		if l, e := Get(whole[:n]); l != nil || e != api.ErrShort {
			t.Errorf("Get of %d bytes: %d", n, e)
		}
	}
	for i, s := range []string{
		"\x00", whole + "x", "\x01\x02", code.Num(api.MostChanges + 1), "\x01\x00\x61", "\x01\x00\x00\x00", "\x01\x00\x01a" + code.Num(api.MostValue+1),
		"\x02\x00\x01a\x00\x02",
	} {
		if l, e := Get(s); l != nil || e != api.ErrForm {
			t.Errorf("case %d: %d", i, e)
		}
	}
}

func TestSplit(t *testing.T) {
	for _, c := range []struct{ bytes, blocks int }{{0, 1}, {1, 1}, {460, 1}, {461, 1}, {462, 2}, {922, 2}, {923, 3}, {api.MostRecord, 36}} {
		s := text(c.bytes)
		l := Split(s)
		if len(l) != c.blocks || Blocks(s) != c.blocks {
			t.Errorf("%d bytes are %d and %d blocks", c.bytes, len(l), Blocks(s))
		}
		all := ""
		for i, held := range l {
			first := "\x00"
			if i == len(l)-1 {
				first = "\x01"
			}
			if held[:1] != first || len(held) > api.PlainBytes {
				t.Errorf("piece %d begins with %q", i, held[:1])
			}
			all += held[1:]
		}
		if all != s {
			t.Errorf("%d bytes are split into others", c.bytes)
		}
	}
}

func TestJoin(t *testing.T) {
	a, b, c := record(t, 50), record(t, 2000), many(3)
	l := slices.Concat(Split(Put(a)), Split(Put(b)), Split(Put(c)))
	got, e := Join(l)
	if e != api.OK || len(got) != 3 || !slices.Equal(got[0], a) || !slices.Equal(got[1], b) || !slices.Equal(got[2], c) {
		t.Errorf("%d records, %d", len(got), e)
	}
	if got, e := Join(nil); len(got) != 0 || e != api.OK {
		t.Errorf("Join of nothing: %d", e)
	}
	most := record(t, api.MostRecord)
	if got, e := Join(Split(Put(most))); e != api.OK || len(got) != 1 {
		t.Errorf("Join of the most: %d", e)
	}
	whole := Put(a)
	for i, l := range [][]string{
		{""}, {"\x02" + whole}, {"\x00" + whole}, {"\x01" + whole, "\x00"}, {"\x01" + whole + "x"}, {"\x01"}, {"\x01" + whole[1:]}, {"\x01" + whole, ""},
		{"\x00" + text(api.MostRecord+1), "\x01"}, {"\x01" + whole, "\x01" + whole[:9]},
	} {
		if got, e := Join(l); got != nil || e != api.ErrForm {
			t.Errorf("case %d: %d records, %d", i, len(got), e)
		}
	}
	if got, e := Join([]string{"\x00" + whole[:9], "\x00", "\x01" + whole[9:]}); e != api.OK || len(got) != 1 {
		t.Errorf("Join of a piece without bytes: %d", e)
	}
}

func TestChain(t *testing.T) {
	b := book.New()
	chain, block := strings.Repeat("\x00", api.SumBytes), text(api.BlockBytes)
	if Chain(b, chain, block) != sha.Sum(chain+block) || b.Len() != 1 || Chain(nil, chain, block) != sha.Sum(chain+block) {
		t.Error("a chain is another sum")
	}
}
