package blob

import (
	"strings"
	"testing"

	"lodestone/api"
	"lodestone/code"
	"lodestone/device"
	"lodestone/disk"
	"lodestone/pager"
	"lodestone/space"
)

var none1 = api.Ref{Place: -1}

func newPager(t *testing.T, blocks int) (*pager.Pager, *disk.Disk) {
	t.Helper()
	d, _ := disk.New(blocks, nil)
	dev, e := device.New("a master key of thirty-two bytes", d)
	if e != api.OK {
		t.Fatal(e)
	}
	return pager.New(d, dev, nil, space.New(blocks, 2), 2), d
}

// long is a text of so many bytes, no two pages of which are alike.
func long(n int) string {
	b := make([]byte, n)
	for i := range b {
		b[i] = byte(i + i/256)
	}
	return string(b)
}

func TestPutAndGet(t *testing.T) {
	for n, many := range map[int]int{1: 1, 80: 1, 399: 1, 400: 1, 401: 2, 800: 2, 801: 3, 4000: 10, 4001: 11, api.MostValue: 11} {
		p, _ := newPager(t, 40)
		r, e := Put(p, long(n))
		if e != api.OK {
			t.Fatalf("Put of %d bytes: %d", n, e)
		}
		p.Done()
		got, e := Get(p, r)
		if got != long(n) || e != api.OK {
			t.Errorf("Get of %d bytes: %d, %d", n, len(got), e)
		}
		pages, e := Pages(p, r)
		if len(pages) != many || e != api.OK || pages[0] != r || p.Space().Many() != many {
			t.Errorf("%d bytes have %d pages, %d places, %d", n, len(pages), p.Space().Many(), e)
		}
		for i, page := range pages {
			if s, e := p.Read(page); e != api.OK || !strings.HasPrefix(s, "B") || !strings.HasSuffix(s, long(n)[i*400:min(n, i*400+400)]) {
				t.Errorf("page %d of %d bytes: %d", i, n, e)
			}
		}
		if e := Drop(p, r); e != api.OK || p.Space().Many() != many {
			t.Errorf("Drop: %d, %d places", e, p.Space().Many())
		}
		p.Done()
		if p.Space().Many() != 0 {
			t.Errorf("%d places are taken", p.Space().Many())
		}
	}
}

func TestPutErrors(t *testing.T) {
	p, d := newPager(t, 5)
	refused := func(p *pager.Pager, s string, want api.Errno) {
		t.Helper()
		if r, e := Put(p, s); r != none1 || e != want {
			t.Errorf("Put: %v, %d, not %d", r, e, want)
		}
		if many := p.Space().Many(); many != 0 {
			t.Errorf("%d places are taken", many)
		}
	}
	refused(p, "", api.ErrInput)
	refused(p, long(api.MostValue+1), api.ErrInput)
	refused(nil, "text", api.ErrInput)
	refused(p, long(1201), api.ErrFull)
	d.Plan(2, 0)
	refused(p, long(1000), api.ErrPower)
}

func TestOfNoPage(t *testing.T) {
	p, _ := newPager(t, 5)
	s, e := Get(p, none1)
	pages, e2 := Pages(p, none1)
	if s != "" || pages != nil || e != api.OK || e2 != api.OK || Drop(p, none1) != api.OK {
		t.Errorf("something: %d, %d", e, e2)
	}
}

func TestReadErrors(t *testing.T) {
	p, d := newPager(t, 60)
	refused := func(r api.Ref, want api.Errno) {
		t.Helper()
		many := p.Space().Many()
		s, e := Get(p, r)
		pages, e2 := Pages(p, r)
		if s != "" || pages != nil || e != want || e2 != want || Drop(p, r) != want {
			t.Errorf("%d bytes, %d pages, %d, %d, not %d", len(s), len(pages), e, e2, want)
		}
		if p.Space().Many() != many {
			t.Error("pages are dropped with an error")
		}
	}
	sum := strings.Repeat("s", api.SumBytes)
	for _, held := range []string{
		"", "B", "X\x00\x00\x01t", "B\x00\x00\x02t", "B\x00\x00\x01tx", "B" + code.Num(api.MostBlocks+1), "B\x00\x21", "B\x00\x00" + code.Text(long(401)),
		"B\x00\x00\x00", "B\x00\x20" + sum + "\x01t", "B\x03\x00" + code.Text(long(400)), "B\x03\x20" + sum + "\x01t",
	} {
		r, e := p.Write(held)
		if e != api.OK {
			t.Fatal(e)
		}
		refused(r, api.ErrIntegrity)
	}
	r := none1
	for i := range 11 {
		r, _ = p.Write("B" + code.Num(uint64(r.Place+1)) + code.Text(r.Sum) + code.Text(long(400)))
		if i == 9 {
			if s, e := Get(p, r); len(s) != 4000 || e != api.OK {
				t.Errorf("Get of ten pages: %d, %d", len(s), e)
			}
		}
	}
	refused(r, api.ErrIntegrity)
	refused(api.Ref{Place: 3}, api.ErrInput)
	refused(api.Ref{Place: 59, Sum: sum}, api.ErrIntegrity)
	r, _ = Put(p, long(1200))
	pages, _ := Pages(p, r)
	d.Poke(pages[2].Place, strings.Repeat("x", api.BlockBytes))
	p.Read(pages[0])
	p.Read(pages[1])
	refused(r, api.ErrIntegrity)
	d.Fail(0)
	refused(r, api.ErrPower)
	if _, e := Get(nil, r); e != api.ErrInput {
		t.Errorf("Get of no pager: %d", e)
	}
}
