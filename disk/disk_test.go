package disk

import (
	"math"
	"slices"
	"strings"
	"testing"

	"lodestone/api"
)

// full is a block of one letter.
func full(letter string) string { return strings.Repeat(letter, api.BlockBytes) }

func newDisk(t *testing.T, blocks int, cuts ...api.Cut) *Disk {
	t.Helper()
	d, e := New(blocks, cuts)
	if e != api.OK {
		t.Fatalf("New: %d", e)
	}
	return d
}

// write writes blocks that must be written.
func write(t *testing.T, d *Disk, n int, s string) {
	t.Helper()
	if e := d.Write(n, s); e != api.OK {
		t.Fatalf("Write of %d: %d", n, e)
	}
}

// holds tells what a block must be.
func holds(t *testing.T, d *Disk, n int, want string) {
	t.Helper()
	got, e := d.Read(n)
	if e != api.OK || got != want {
		t.Errorf("block %d is %.3q..%.3q, %d, not %.3q..", n, got, got[len(got)/2:], e, want)
	}
}

func TestNew(t *testing.T) {
	for _, n := range []int{0, -1, math.MinInt, api.MostBlocks + 1, math.MaxInt} {
		if d, e := New(n, nil); d != nil || e != api.ErrInput {
			t.Errorf("New of %d: %d", n, e)
		}
	}
	for _, n := range []int{1, api.MostBlocks} {
		d := newDisk(t, n)
		if d.Blocks() != n || d.Acts() != 0 || d.Dead() {
			t.Errorf("%d blocks, %d acts", d.Blocks(), d.Acts())
		}
		holds(t, d, n-1, full("\x00"))
	}
}

func TestWriteIsReadAtOnceAndSureBehindFlush(t *testing.T) {
	d := newDisk(t, 3)
	write(t, d, 1, full("a"))
	holds(t, d, 1, full("a"))
	if e := d.Flush(); e != api.OK {
		t.Fatal(e)
	}
	write(t, d, 1, full("b"))
	write(t, d, 2, full("c"))
	d.Fail(0)
	if !d.Dead() {
		t.Error("it has power")
	}
	d.Up()
	holds(t, d, 1, full("a"))
	holds(t, d, 2, full("\x00"))
	if d.Acts() != 4 {
		t.Errorf("%d acts", d.Acts())
	}
}

func TestFates(t *testing.T) {
	d := newDisk(t, 6)
	for i := range 5 {
		write(t, d, i, full("o"))
	}
	d.Flush()
	for _, n := range []int{3, 1, 0, 2, 1} {
		write(t, d, n, full("n"))
	}
	d.Fail(api.FateKept | api.FateFront<<2 | api.FateBack<<4 | api.FateLost<<6 | api.FateKept<<8)
	d.Up()
	holds(t, d, 3, full("n"))
	holds(t, d, 1, full("n")[:256]+full("o")[256:])
	holds(t, d, 0, full("o")[:256]+full("n")[256:])
	holds(t, d, 2, full("o"))
	holds(t, d, 4, full("o"))
	holds(t, d, 5, full("\x00"))
}

func TestFatesBeginAgainBehind32Blocks(t *testing.T) {
	d := newDisk(t, 70)
	for i := range 70 {
		write(t, d, i, full("n"))
	}
	d.Fail(api.FateKept | api.FateKept<<62)
	d.Up()
	for i := range 70 {
		want := full("\x00")
		if i%32 == 0 || i%32 == 31 {
			want = full("n")
		}
		holds(t, d, i, want)
	}
}

func TestWriteErrors(t *testing.T) {
	d := newDisk(t, 2)
	for _, n := range []int{-1, 2, math.MaxInt, math.MinInt} {
		if e := d.Write(n, full("a")); e != api.ErrInput {
			t.Errorf("Write of %d: %d", n, e)
		}
		if s, e := d.Read(n); s != "" || e != api.ErrInput {
			t.Errorf("Read of %d: %d", n, e)
		}
		if d.Poke(n, full("a")) {
			t.Errorf("Poke of %d", n)
		}
	}
	for _, s := range []string{"", full("a")[1:], full("a") + "a"} {
		if e := d.Write(0, s); e != api.ErrInput {
			t.Errorf("Write of %d bytes: %d", len(s), e)
		}
		if d.Poke(0, s) {
			t.Errorf("Poke of %d bytes", len(s))
		}
	}
	if d.Acts() != 0 {
		t.Errorf("%d acts", d.Acts())
	}
	d.Fail(0)
	if e := d.Write(-1, ""); e != api.ErrPower {
		t.Errorf("Write without power: %d", e)
	}
	if s, e := d.Read(0); s != "" || e != api.ErrPower {
		t.Errorf("Read without power: %d", e)
	}
	if e := d.Flush(); e != api.ErrPower {
		t.Errorf("Flush without power: %d", e)
	}
	if e := d.Act(); e != api.ErrPower || d.Acts() != 0 {
		t.Errorf("Act without power: %d, %d acts", e, d.Acts())
	}
}

func TestCutsFailAheadOfTheirActs(t *testing.T) {
	cuts := []api.Cut{{At: 3, Fates: api.FateKept}, {At: 3}, {At: 0}, {At: -1}, {At: 5}}
	d := newDisk(t, 3, cuts...)
	cuts[0].At = 1
	write(t, d, 0, full("a"))
	write(t, d, 1, full("b"))
	if e := d.Write(2, full("c")); e != api.ErrPower || d.Acts() != 3 || !d.Dead() {
		t.Fatalf("the third act: %d, %d acts", e, d.Acts())
	}
	d.Up()
	holds(t, d, 0, full("a"))
	holds(t, d, 1, full("\x00"))
	holds(t, d, 2, full("\x00"))
	if e := d.Flush(); e != api.OK {
		t.Errorf("the fourth act: %d", e)
	}
	if e := d.Act(); e != api.ErrPower || d.Acts() != 5 {
		t.Errorf("the fifth act: %d, %d acts", e, d.Acts())
	}
}

func TestFlushAtACutMakesNothingSure(t *testing.T) {
	d := newDisk(t, 1, api.Cut{At: 2})
	write(t, d, 0, full("a"))
	if e := d.Flush(); e != api.ErrPower {
		t.Errorf("Flush: %d", e)
	}
	d.Up()
	holds(t, d, 0, full("\x00"))
}

func TestPlan(t *testing.T) {
	d := newDisk(t, 1)
	d.Act()
	d.Plan(0, 0)
	d.Plan(-1, 0)
	d.Plan(api.MostPlan+1, 0)
	d.Plan(2, 0)
	if e := d.Act(); e != api.OK {
		t.Errorf("the next act: %d", e)
	}
	d.Plan(1, api.FateKept)
	if e := d.Act(); e != api.ErrPower || d.Acts() != 3 {
		t.Errorf("the planned act: %d, %d acts", e, d.Acts())
	}
	d.Plan(1, 0)
	d.Up()
	if e := d.Act(); e != api.ErrPower {
		t.Errorf("an act planned without power: %d", e)
	}
}

func TestThePlanToldFirstCounts(t *testing.T) {
	d := newDisk(t, 1)
	write(t, d, 0, full("a"))
	d.Plan(1, api.FateFront)
	d.Plan(1, api.FateKept)
	d.Act()
	d.Up()
	holds(t, d, 0, full("a")[:256]+full("\x00")[256:])
}

func TestPoke(t *testing.T) {
	d := newDisk(t, 4)
	for i := range 3 {
		write(t, d, i, full("n"))
	}
	if !d.Poke(1, full("p")) || !d.Poke(3, full("q")) {
		t.Error("Poke may not be")
	}
	holds(t, d, 1, full("p"))
	d.Fail(api.FateKept << 4)
	if !d.Poke(0, full("r")) {
		t.Error("Poke without power may not be")
	}
	want := []string{full("r"), full("p"), full("n"), full("q")}
	if !slices.Equal(d.Image(), want) {
		t.Error("the image is another one")
	}
	d.Up()
	for i, s := range want {
		holds(t, d, i, s)
	}
}

func TestWhatIsWrittenBehindAPokeKeepsItsPlace(t *testing.T) {
	d := newDisk(t, 2)
	write(t, d, 0, full("a"))
	write(t, d, 1, full("b"))
	d.Poke(0, full("p"))
	write(t, d, 0, full("c"))
	holds(t, d, 0, full("c"))
	d.Fail(api.FateKept << 2)
	d.Up()
	holds(t, d, 0, full("p"))
	holds(t, d, 1, full("b"))
}

func TestImageIsTheCallersOwn(t *testing.T) {
	d := newDisk(t, 2)
	write(t, d, 0, full("a"))
	image := d.Image()
	if !slices.Equal(image, []string{full("a"), full("\x00")}) {
		t.Error("the image is another one")
	}
	image[0] = ""
	holds(t, d, 0, full("a"))
}

func TestNone(t *testing.T) {
	var d *Disk
	d.Plan(1, 0)
	d.Fail(0)
	d.Up()
	_, read := d.Read(0)
	if d.Blocks() != 0 || d.Acts() != 0 || !d.Dead() || d.Image() != nil || d.Poke(0, full("a")) {
		t.Error("of none something is told")
	}
	if d.Act() != api.ErrPower || d.Write(0, full("a")) != api.ErrPower || d.Flush() != api.ErrPower || read != api.ErrPower {
		t.Error("none has power")
	}
}
