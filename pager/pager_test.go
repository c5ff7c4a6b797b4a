package pager

import (
	"strings"
	"testing"

	"lodestone/api"
	"lodestone/block"
	"lodestone/book"
	"lodestone/device"
	"lodestone/disk"
	"lodestone/sha"
	"lodestone/space"
)

const key = "a master key of thirty-two bytes"

// machine is a pager and all it stands on.
type machine struct {
	disk   *disk.Disk
	device *device.Device
	book   *book.Book
	pager  *Pager
}

func newMachine(t *testing.T, blocks, first, most int) machine {
	t.Helper()
	d, e := disk.New(blocks, nil)
	if e != api.OK {
		t.Fatalf("disk: %d", e)
	}
	dev, e := device.New(key, d)
	if e != api.OK {
		t.Fatalf("device: %d", e)
	}
	b := book.New()
	return machine{d, dev, b, New(d, dev, b, space.New(blocks, first), most)}
}

// write is a page that must be written.
func (m machine) write(t *testing.T, s string) api.Ref {
	t.Helper()
	r, e := m.pager.Write(s)
	if e != api.OK {
		t.Fatalf("Write: %d", e)
	}
	return r
}

// kept tells what Kept must say.
func (m machine) kept(t *testing.T, pages, fetched, again int) {
	t.Helper()
	if a, b, c := m.pager.Kept(); a != pages || b != fetched || c != again {
		t.Errorf("Kept is %d, %d, %d, not %d, %d, %d", a, b, c, pages, fetched, again)
	}
}

func TestLayAndFetch(t *testing.T) {
	m := newMachine(t, 8, 2, 4)
	m.device.Bump(strings.Repeat("r", api.RegisterBytes))
	m.pager.Epoch(7)
	sum, sealed, e := m.pager.Lay(1, "text")
	if e != api.OK || sum != sha.Sum(sealed) || m.book.Len() != 1 {
		t.Fatalf("Lay: %d, %d noted", e, m.book.Len())
	}
	want := api.Head{Epoch: 7, Counter: 1, Index: 1}
	if sealed != block.Put(key, want, 1, "text") {
		t.Error("it is sealed otherwise")
	}
	for _, told := range []string{sum, api.NoSum} {
		h, s, b, e := m.pager.Fetch(1, told)
		if h != want || s != "text" || b != sealed || e != api.OK {
			t.Errorf("Fetch: %v, %q, %d", h, s, e)
		}
	}
	m.disk.Fail(0)
	m.disk.Up()
	if s, _ := m.disk.Read(1); s != strings.Repeat("\x00", api.BlockBytes) {
		t.Error("what was laid was sure")
	}
}

func TestHeadsAreNeverAlike(t *testing.T) {
	m := newMachine(t, 8, 2, 4)
	var heads []api.Head
	for i := range 9 {
		if i == 4 || i == 5 {
			m.device.Bump(strings.Repeat("r", api.RegisterBytes))
		}
		if i == 7 {
			m.pager.Epoch(1)
		}
		m.pager.Lay(3, "text")
		h, _, _, _ := m.pager.Fetch(3, api.NoSum)
		heads = append(heads, h)
	}
	want := []api.Head{
		{Index: 1}, {Index: 2}, {Index: 3}, {Index: 4}, {Counter: 1, Index: 1},
		{Counter: 2, Index: 1}, {Counter: 2, Index: 2}, {Epoch: 1, Counter: 2, Index: 3}, {Epoch: 1, Counter: 2, Index: 4},
	}
	for i, h := range heads {
		if h != want[i] {
			t.Errorf("head %d is %v, not %v", i, h, want[i])
		}
	}
}

func TestLayErrors(t *testing.T) {
	m := newMachine(t, 8, 2, 4)
	refused := func(place int, s string, want api.Errno) {
		t.Helper()
		if sum, b, e := m.pager.Lay(place, s); sum != "" || b != "" || e != want {
			t.Errorf("Lay: %d, not %d", e, want)
		}
	}
	refused(3, strings.Repeat("s", api.PlainBytes+1), api.ErrInput)
	refused(8, "text", api.ErrInput)
	refused(-1, "text", api.ErrInput)
	m.disk.Plan(1, 0)
	refused(3, "text", api.ErrPower)
	refused(-1, "text", api.ErrPower)
	if _, _, _, e := m.pager.Fetch(3, api.NoSum); e != api.ErrPower {
		t.Errorf("Fetch: %d", e)
	}
	if m.book.Len() != 0 {
		t.Errorf("%d are noted", m.book.Len())
	}
}

func TestFetchOfWhatWasChanged(t *testing.T) {
	m := newMachine(t, 8, 2, 4)
	sum, old, _ := m.pager.Lay(3, "text")
	_, other, _ := m.pager.Lay(3, "other")
	refused := func(place int, sum string, want api.Errno) {
		t.Helper()
		if h, s, b, e := m.pager.Fetch(place, sum); h != (api.Head{}) || s != "" || b != "" || e != want {
			t.Errorf("Fetch: %v, %q, %d, not %d", h, s, e, want)
		}
	}
	refused(3, sum, api.ErrIntegrity)
	refused(3, "short", api.ErrIntegrity)
	refused(4, api.NoSum, api.ErrIntegrity)
	refused(9, api.NoSum, api.ErrInput)
	m.disk.Poke(3, old)
	if _, s, _, e := m.pager.Fetch(3, sum); s != "text" || e != api.OK {
		t.Errorf("Fetch: %q, %d", s, e)
	}
	m.disk.Poke(4, other)
	refused(4, api.NoSum, api.ErrIntegrity)
	refused(4, sha.Sum(other), api.ErrIntegrity)
}

func TestReadIsKeptOrFetched(t *testing.T) {
	m := newMachine(t, 8, 2, 2)
	a, b := m.write(t, "a"), m.write(t, "b")
	m.kept(t, 2, 0, 0)
	c := m.write(t, "c")
	m.kept(t, 2, 0, 0)
	read := func(r api.Ref, want string) {
		t.Helper()
		if s, e := m.pager.Read(r); s != want || e != api.OK {
			t.Errorf("Read: %q, %d", s, e)
		}
	}
	read(b, "b")
	read(c, "c")
	m.kept(t, 2, 0, 2)
	read(a, "a") // b is the eldest, and goes
	m.kept(t, 2, 1, 2)
	read(c, "c")
	read(a, "a")
	m.kept(t, 2, 1, 4)
	read(b, "b")
	m.kept(t, 2, 2, 4)
	read(a, "a")
	m.kept(t, 2, 2, 5)
	read(c, "c")
	m.kept(t, 2, 3, 5)
}

func TestReadErrors(t *testing.T) {
	m := newMachine(t, 8, 2, 1)
	a := m.write(t, "a")
	m.write(t, "b")
	for _, sum := range []string{"", a.Sum[1:], a.Sum + "s"} {
		if s, e := m.pager.Read(api.Ref{Place: a.Place, Sum: sum}); s != "" || e != api.ErrInput {
			t.Errorf("Read of a sum of %d bytes: %d", len(sum), e)
		}
	}
	if s, e := m.pager.Read(api.Ref{Place: 3, Sum: a.Sum}); s != "" || e != api.ErrIntegrity {
		t.Errorf("Read at another place: %d", e)
	}
	if s, e := m.pager.Read(api.Ref{Place: 33, Sum: a.Sum}); s != "" || e != api.ErrInput {
		t.Errorf("Read of no place: %d", e)
	}
	m.disk.Fail(0)
	if s, e := m.pager.Read(a); s != "" || e != api.ErrPower {
		t.Errorf("Read without power: %d", e)
	}
}

func TestCacheLimits(t *testing.T) {
	for most, want := range map[int]int{-1: 1, 0: 1, 1: 1, 3: 3, api.MostCache: api.MostCache, api.MostCache + 1: api.MostCache, 1 << 62: api.MostCache} {
		m := newMachine(t, 300, 2, most)
		for range 298 {
			m.write(t, "s")
		}
		if pages, _, _ := m.pager.Kept(); pages != want {
			t.Errorf("New with %d keeps %d", most, pages)
		}
	}
}

func TestWrite(t *testing.T) {
	m := newMachine(t, 5, 2, 4)
	a := m.write(t, "a")
	whole := m.write(t, strings.Repeat("w", api.PlainBytes))
	if a.Place != 2 || whole.Place != 3 || len(a.Sum) != api.SumBytes {
		t.Errorf("places %d and %d", a.Place, whole.Place)
	}
	refused := func(s string, want api.Errno) {
		t.Helper()
		if r, e := m.pager.Write(s); r != (api.Ref{}) || e != want {
			t.Errorf("Write: %v, %d, not %d", r, e, want)
		}
	}
	refused(strings.Repeat("w", api.PlainBytes+1), api.ErrInput)
	m.disk.Plan(1, 0)
	refused("text", api.ErrPower)
	m.disk.Up()
	if m.pager.Space().Free() != 1 || m.pager.Space().Taken(4) {
		t.Error("the place of what was not written is taken")
	}
	m.write(t, "b")
	refused("text", api.ErrFull)
	refused(strings.Repeat("w", api.PlainBytes+1), api.ErrInput)
}

func TestDoneAndUndo(t *testing.T) {
	m := newMachine(t, 8, 2, 4)
	s := m.pager.Space()
	a, b := m.write(t, "a"), m.write(t, "b")
	m.pager.Drop(b)
	if s.Taken(b.Place) || !s.Taken(a.Place) {
		t.Error("a new page's place is not free at once")
	}
	m.pager.Done()
	m.pager.Drop(a)
	if !s.Taken(a.Place) {
		t.Error("the place is free ahead of Done")
	}
	c := m.write(t, "c")
	m.pager.Undo()
	if !s.Taken(a.Place) || s.Taken(c.Place) || s.Many() != 1 {
		t.Error("Undo lets go what was dropped, or keeps what is new")
	}
	m.pager.Done()
	if !s.Taken(a.Place) {
		t.Error("what was dropped ahead of Undo goes with Done")
	}
	m.pager.Drop(a)
	m.pager.Drop(a)
	d := m.write(t, "d")
	m.pager.Done()
	m.pager.Undo()
	if s.Taken(a.Place) || !s.Taken(d.Place) || s.Many() != 1 {
		t.Error("Done lets go what is new, or keeps what was dropped")
	}
	m.pager.Drop(api.Ref{Place: -1})
	m.pager.Drop(api.Ref{Place: 7})
	m.pager.Done()
	if s.Many() != 1 {
		t.Errorf("%d are taken", s.Many())
	}
	if got, e := m.pager.Read(d); got != "d" || e != api.OK {
		t.Errorf("Read: %q, %d", got, e)
	}
}

func TestNone(t *testing.T) {
	var p *Pager
	p.Epoch(1)
	p.Drop(api.Ref{})
	p.Done()
	p.Undo()
	_, _, e := p.Lay(0, "")
	_, _, _, e2 := p.Fetch(0, "")
	_, e3 := p.Read(api.Ref{})
	_, e4 := p.Write("")
	a, b, c := p.Kept()
	if e != api.ErrInput || e2 != api.ErrInput || e3 != api.ErrInput || e4 != api.ErrInput || a+b+c != 0 || p.Space() != nil {
		t.Error("of none something is told")
	}
	bare := New(nil, nil, nil, nil, 5)
	_, e = bare.Write("")
	_, e2 = bare.Read(api.Ref{Sum: strings.Repeat("s", api.SumBytes)})
	_, _, e3 = bare.Lay(0, "")
	if e != api.ErrFull || e2 != api.ErrPower || e3 != api.ErrPower {
		t.Errorf("on nothing: %d, %d, %d", e, e2, e3)
	}
}
