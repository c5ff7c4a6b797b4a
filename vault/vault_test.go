package vault

import (
	"fmt"
	"maps"
	"math"
	"math/rand"
	"slices"
	"strings"
	"testing"

	"lodestone/api"
	"lodestone/blob"
	"lodestone/block"
	"lodestone/book"
	"lodestone/device"
	"lodestone/disk"
	"lodestone/tree"
)

const testKey = "a master key of thirty-two bytes"

// machine is a disk and a device, with the store that was opened last.
type machine struct {
	t      *testing.T
	disk   *disk.Disk
	device *device.Device
	book   *book.Book
	setup  api.Setup
	vault  *Vault
}

// off is a machine whose store was not opened yet.
func off(t *testing.T, blocks, log, cache int, cuts ...api.Cut) *machine {
	t.Helper()
	d, e := disk.New(blocks, cuts)
	if e != api.OK {
		t.Fatal(e)
	}
	dev, e := device.New(testKey, d)
	if e != api.OK {
		t.Fatal(e)
	}
	return &machine{t: t, disk: d, device: dev, book: book.New(), setup: api.Setup{Log: log, Cache: cache}}
}

func on(t *testing.T, blocks, log, cache int) *machine {
	t.Helper()
	m := off(t, blocks, log, cache)
	if e := m.open(); e != api.OK {
		t.Fatalf("Open: %d", e)
	}
	return m
}

func (m *machine) open() api.Errno {
	v, e := Open(m.disk, m.device, m.book, m.setup)
	if (v == nil) != (e != api.OK) {
		m.t.Errorf("Open tells a store and %d", e)
	}
	m.vault = v
	return e
}

// commit is a commit that must be.
func (m *machine) commit(l ...api.Change) {
	m.t.Helper()
	if e := m.vault.Commit(l); e != api.OK {
		m.t.Fatalf("Commit: %d", e)
	}
}

// all is all that is stored.
func (m *machine) all() map[string]string {
	m.t.Helper()
	l, e := m.vault.Range("", "", api.MostRange)
	if e != api.OK {
		m.t.Fatalf("Range: %d", e)
	}
	got := map[string]string{}
	for i, entry := range l {
		if i > 0 && l[i-1].Key >= entry.Key {
			m.t.Error("keys do not rise")
		}
		got[entry.Key] = entry.Value
	}
	return got
}

// turn rotates till that is done: how many steps it took.
func (m *machine) turn() int {
	m.t.Helper()
	for i := 1; i < 1000; i++ {
		done, e := m.vault.Rotate()
		if e != api.OK {
			m.t.Fatalf("Rotate: %d", e)
		}
		if done {
			return i
		}
	}
	m.t.Fatal("a rotation does not end")
	return 0
}

func put(key, value string) api.Change { return api.Change{Key: key, Value: value} }

func gone(key string) api.Change { return api.Change{Key: key, Gone: true} }

func long(n int, letter string) string { return strings.Repeat(letter, n) }

func TestOpenErrInput(t *testing.T) {
	d, _ := disk.New(22, nil)
	dev, _ := device.New(testKey, d)
	for i, c := range []struct {
		d    *disk.Disk
		dev  *device.Device
		s    api.Setup
		want api.Errno
	}{
		{nil, dev, api.Setup{Log: 4}, api.ErrInput}, {d, nil, api.Setup{Log: 4}, api.ErrInput}, {d, dev, api.Setup{Log: 3}, api.ErrInput},
		{d, dev, api.Setup{Log: 4, Cache: -1}, api.ErrInput}, {d, dev, api.Setup{Log: 13}, api.ErrInput}, {d, dev, api.Setup{Log: math.MaxInt}, api.ErrInput},
		{d, dev, api.Setup{Log: math.MinInt}, api.ErrInput}, {d, dev, api.Setup{Log: api.MostBlocks + 1}, api.ErrInput}, {d, dev, api.Setup{Log: 12}, api.OK},
	} {
		v, e := Open(c.d, c.dev, nil, c.s)
		if e != c.want || (v == nil) != (e != api.OK) {
			t.Errorf("case %d: %d", i, e)
		}
		if c.want != api.OK && d.Acts() != 0 {
			t.Errorf("case %d: %d acts", i, d.Acts())
		}
	}
}

func TestFirstOpen(t *testing.T) {
	m := on(t, 100, 8, 4)
	if m.device.Counter() != 1 || m.device.Register()[0] != 1 {
		t.Errorf("number %d, slot %d", m.device.Counter(), m.device.Register()[0])
	}
	want := api.Stat{Free: 90}
	if m.vault.Stat() != want || m.vault.Stuck() != api.OK || len(m.all()) != 0 {
		t.Errorf("Stat is %v", m.vault.Stat())
	}
	sealed, _ := m.disk.Read(0)
	head, held, e := block.Get(testKey, 0, sealed)
	if head != (api.Head{Index: 1}) || e != api.OK || !strings.HasPrefix(held, "lode\x00") {
		t.Errorf("the first anchor: %v, %q, %d", head, held, e)
	}
	if m.open() != api.OK || m.device.Counter() != 2 || m.vault.Stat() != want {
		t.Errorf("opened again: number %d, %v", m.device.Counter(), m.vault.Stat())
	}
}

func TestCommitAndOpenAnew(t *testing.T) {
	m := on(t, 100, 8, 4)
	m.commit(put("a", "1"), put("b", long(100, "b")))
	m.commit(put("a", "2"), gone("x"), put("c", ""))
	want := map[string]string{"a": "2", "b": long(100, "b"), "c": ""}
	for range 2 {
		if !maps.Equal(m.all(), want) {
			t.Errorf("there is %v", m.all())
		}
		for key, value := range want {
			if got, found, e := m.vault.Get(key); got != value || !found || e != api.OK {
				t.Errorf("Get of %q: %q, %v, %d", key, got, found, e)
			}
		}
		for _, key := range []string{"", "x", "d"} {
			if got, found, e := m.vault.Get(key); got != "" || found || e != api.OK {
				t.Errorf("Get of %q: %q, %v, %d", key, got, found, e)
			}
		}
		if s := m.vault.Stat(); s != (api.Stat{Changes: 4, Log: 2, Free: 90, Gen: 2}) {
			t.Errorf("Stat is %v", s)
		}
		m.disk.Fail(0)
		m.disk.Up()
		if e := m.open(); e != api.OK {
			t.Fatal(e)
		}
	}
}

func TestCommitErrors(t *testing.T) {
	m := on(t, 100, 4, 4)
	var much []api.Change
	for i := range api.MostChanges + 1 {
		much = append(much, put(fmt.Sprint(i), ""))
	}
	for i, l := range [][]api.Change{nil, much, {put("", "v")}, {put(long(97, "k"), "")}, {put("a", long(4097, "v"))}, {{Key: "a", Value: "v", Gone: true}}} {
		if e := m.vault.Commit(l); e != api.ErrInput {
			t.Errorf("case %d: %d", i, e)
		}
	}
	if e := m.vault.Commit([]api.Change{put("a", long(1840, "v"))}); e != api.ErrFull {
		t.Errorf("more blocks than the log has: %d", e)
	}
	if s := m.vault.Stat(); s.Gen != 0 || m.device.Counter() != 1 {
		t.Errorf("Stat is %v, number %d", s, m.device.Counter())
	}
	m.commit(put("a", long(1836, "v")))
	if s := m.vault.Stat(); s.Log != 4 {
		t.Errorf("Stat is %v", s)
	}
}

func TestCheckpoint(t *testing.T) {
	m := on(t, 100, 4, 4)
	if e := m.vault.Checkpoint(); e != api.OK || m.device.Counter() != 1 {
		t.Errorf("Checkpoint of an empty log: %d, number %d", e, m.device.Counter())
	}
	want := map[string]string{"a": long(79, "a"), "b": long(80, "b"), "c": long(4096, "c")[:1500], "d": ""}
	for key, value := range want {
		m.commit(put(key, value))
		m.vault.Checkpoint()
	}
	number := m.device.Counter()
	if e := m.vault.Checkpoint(); e != api.OK || m.device.Counter() != number {
		t.Errorf("Checkpoint of an empty log: %d", e)
	}
	s := m.vault.Stat()
	if s.Changes != 0 || s.Log != 0 || s.Taken != 1+1+4 || s.Free != 94-s.Taken {
		t.Errorf("Stat is %v", s)
	}
	if !maps.Equal(m.all(), want) || m.open() != api.OK || !maps.Equal(m.all(), want) || m.vault.Stat() != s {
		t.Errorf("there is %v, %v", m.all(), m.vault.Stat())
	}
	_, entries, _ := tree.Pages(m.vault.pager, m.vault.anchor.Root)
	for i, mark := range []string{"\x00", "\x01", "\x01", "\x00"} {
		if !strings.HasPrefix(entries[i].Value, mark) {
			t.Errorf("entry %d stands as %q", i, entries[i].Value)
		}
	}
	m.commit(gone("c"), put("b", "short"), gone("none"))
	if e := m.vault.Checkpoint(); e != api.OK || m.vault.Stat().Taken != 1 {
		t.Errorf("Checkpoint: %d, %v", e, m.vault.Stat())
	}
}

func TestTheLogGoesRound(t *testing.T) {
	m := on(t, 100, 4, 4)
	for i := range 9 {
		before := m.device.Counter()
		m.commit(put("a", fmt.Sprint(i)))
		rise := uint64(1)
		if i == 4 || i == 8 {
			rise = 2
		}
		if m.device.Counter() != before+rise {
			t.Errorf("commit %d lets the number rise by %d", i, m.device.Counter()-before)
		}
	}
	m.commit(put("b", long(900, "b")))
	if m.vault.anchor.From != 2 || m.vault.Stat().Log != 3 {
		t.Errorf("from %d, %v", m.vault.anchor.From, m.vault.Stat())
	}
	m.vault.Checkpoint()
	if m.vault.anchor.From != 5 || m.vault.anchor.Chain != noChain() {
		t.Errorf("from %d", m.vault.anchor.From)
	}
	m.commit(put("c", long(900, "c")))
	if m.open() != api.OK || len(m.all()) != 3 || m.all()["c"] != long(900, "c") {
		t.Errorf("there is %v", m.all())
	}
}

func TestRange(t *testing.T) {
	m := on(t, 100, 16, 4)
	var want []api.Entry
	for i := range 60 {
		key := fmt.Sprintf("%02d", i)
		m.commit(put(key, key))
		want = append(want, api.Entry{Key: key, Value: key})
	}
	m.vault.Checkpoint()
	for i := range 20 {
		m.commit(gone(fmt.Sprintf("%02d", i)))
	}
	m.commit(put("205", long(100, "l")), put("30", "new"))
	want = slices.Insert(want[20:], 1, api.Entry{Key: "205", Value: long(100, "l")})
	want[11].Value = "new"
	for _, most := range []int{-1, 0, 1, 5, 41, 100, math.MaxInt} {
		got, e := m.vault.Range("", "", most)
		if e != api.OK || !slices.Equal(got, want[:min(max(most, 0), len(want))]) {
			t.Errorf("Range of %d: %d entries, %d", most, len(got), e)
		}
	}
	if got, e := m.vault.Range("10", "21", 9); e != api.OK || !slices.Equal(got, want[:2]) {
		t.Errorf("Range: %v, %d", got, e)
	}
	if got, e := m.vault.Range("21", "10", 9); e != api.OK || len(got) != 0 {
		t.Errorf("Range: %v, %d", got, e)
	}
}

func TestFullLeavesAllAsItWas(t *testing.T) {
	m := on(t, 2+8+12, 8, 4)
	want := map[string]string{}
	for i := 0; ; i++ {
		key := fmt.Sprintf("%02d", i)
		e := m.vault.Commit([]api.Change{put(key, long(1000, "v"))})
		if e == api.ErrFull {
			break
		}
		if e != api.OK {
			t.Fatal(e)
		}
		want[key] = long(1000, "v")
	}
	before, number := m.vault.Stat(), m.device.Counter()
	if e := m.vault.Checkpoint(); e != api.ErrFull {
		t.Errorf("Checkpoint: %d", e)
	}
	if done, e := m.vault.Rotate(); done || e != api.ErrFull {
		t.Errorf("Rotate: %v, %d", done, e)
	}
	if m.vault.Stat() != before || m.device.Counter() != number || m.vault.Stuck() != api.OK {
		t.Errorf("Stat is %v, was %v", m.vault.Stat(), before)
	}
	if !maps.Equal(m.all(), want) || m.open() != api.OK || !maps.Equal(m.all(), want) {
		t.Errorf("there are %d", len(m.all()))
	}
}

func TestRotate(t *testing.T) {
	m := on(t, 200, 8, 4)
	if steps := m.turn(); steps != 2 || m.vault.Stat().Epoch != 1 {
		t.Errorf("an empty store is rotated in %d steps", steps)
	}
	want := map[string]string{}
	for i := range 60 {
		key := fmt.Sprintf("%02d", i)
		want[key] = long(20*i, "v")
		m.commit(put(key, want[key]))
	}
	m.vault.Checkpoint()
	m.commit(put("x", ""))
	want["x"] = ""
	if done, e := m.vault.Rotate(); done || e != api.OK || m.vault.Stat().Log != 0 || m.vault.Stat().Turn {
		t.Errorf("the first step: %v, %d, %v", done, e, m.vault.Stat())
	}
	if done, e := m.vault.Rotate(); done || e != api.OK || m.vault.Stat().Epoch != 2 || !m.vault.Stat().Turn {
		t.Errorf("the second step: %v, %d, %v", done, e, m.vault.Stat())
	}
	leaves := 0
	pages, _, _ := tree.Pages(m.vault.pager, m.vault.anchor.Root)
	for _, r := range pages {
		if n, _ := tree.Node(m.vault.pager, r); len(n.Entries) > 0 {
			leaves++
		}
	}
	for i := 1; ; i++ {
		number := m.device.Counter()
		done, e := m.vault.Rotate()
		if e != api.OK || m.device.Counter() != number+1 {
			t.Fatalf("step %d: %d, number %d behind %d", i, e, m.device.Counter(), number)
		}
		if !maps.Equal(m.all(), want) {
			t.Fatalf("step %d changes what is stored", i)
		}
		if done {
			if i > leaves+1 {
				t.Errorf("%d steps of %d pages", i, leaves)
			}
			break
		}
		if e := m.open(); e != api.OK {
			t.Fatal(e)
		}
	}
	if s := m.vault.Stat(); s.Turn || s.Epoch != 2 || m.vault.anchor.Next != "" {
		t.Errorf("Stat is %v", s)
	}
	heads, e := m.vault.Heads()
	if e != api.OK || len(heads) != 1+m.vault.Stat().Taken {
		t.Errorf("%d heads, %d", len(heads), e)
	}
	for _, h := range heads {
		if h.Epoch != 2 {
			t.Errorf("a block has %v", h)
		}
	}
}

func TestRotateAmongCommits(t *testing.T) {
	m := on(t, 400, 8, 16)
	chance := rand.New(rand.NewSource(3))
	want := map[string]string{}
	for range 300 {
		var l []api.Change
		for range 1 + chance.Intn(3) {
			key := fmt.Sprint("k", chance.Intn(60))
			if _, there := want[key]; there && chance.Intn(2) == 0 {
				l = append(l, gone(key))
				delete(want, key)
				continue
			}
			want[key] = long(chance.Intn(30)*chance.Intn(30), "v")
			l = append(l, put(key, want[key]))
		}
		m.commit(l...)
		if done, e := m.vault.Rotate(); e != api.OK {
			t.Fatal(e)
		} else if done {
			checkEpochs(t, m.vault)
		}
		if chance.Intn(2) == 0 {
			m.vault.Rotate()
		}
		if !maps.Equal(m.all(), want) {
			t.Fatal("another store")
		}
	}
	m.turn()
	if m.vault.Stat().Epoch < 5 {
		t.Errorf("epoch %d", m.vault.Stat().Epoch)
	}
	checkEpochs(t, m.vault)
}

// checkEpochs looks whether all blocks have the anchor's epoch.
func checkEpochs(t *testing.T, v *Vault) {
	t.Helper()
	heads, e := v.Heads()
	if e != api.OK {
		t.Fatal(e)
	}
	for _, h := range heads {
		if h.Epoch != v.anchor.Epoch {
			t.Errorf("%v in epoch %d", h, v.anchor.Epoch)
		}
	}
}

func TestRotateToTheLastKeyOfAll(t *testing.T) {
	m := on(t, 100, 8, 4)
	m.commit(put(long(96, "\xff"), "v"), put("a", "v"))
	m.vault.Checkpoint()
	if steps := m.turn(); steps != 2 {
		t.Errorf("%d steps", steps)
	}
	for key, want := range map[string]string{
		"": nought, "a": "a\x00", long(95, "a"): long(95, "a") + "\x00", long(96, "a"): long(95, "a") + "b", long(95, "a") + "\xff": long(94, "a") + "b",
		long(96, "\xff"): "", long(95, "\xff"): long(95, "\xff") + "\x00",
	} {
		if got := above(key); got != want {
			t.Errorf("above %q is %q", key, got)
		}
	}
}

func TestHeads(t *testing.T) {
	m := on(t, 100, 8, 4)
	m.commit(put("a", long(900, "a")))
	m.vault.Checkpoint()
	m.commit(put("b", long(600, "b")))
	heads, e := m.vault.Heads()
	if e != api.OK || len(heads) != 1+2+1+3 {
		t.Fatalf("%d heads, %d", len(heads), e)
	}
	seen := map[api.Head]bool{}
	for _, h := range heads {
		if seen[h] {
			t.Errorf("%v twice", h)
		}
		seen[h] = true
	}
	if heads[0] != (api.Head{Counter: 3, Index: 3}) || heads[1] != (api.Head{Counter: 3, Index: 1}) {
		t.Errorf("heads are %v", heads)
	}
}

func TestStuck(t *testing.T) {
	for i, hurt := range []func(*machine) api.Errno{
		func(m *machine) api.Errno { m.disk.Fail(0); m.vault.Stuck(); m.disk.Up(); return api.ErrPower },
		func(m *machine) api.Errno {
			m.disk.Plan(2, 0)
			m.vault.Commit([]api.Change{put("z", "v")})
			m.disk.Up()
			return api.ErrPower
		},
		func(m *machine) api.Errno {
			m.disk.Poke(m.vault.anchor.Root.Place, long(512, "x"))
			m.vault.Heads()
			return api.ErrIntegrity
		},
		func(m *machine) api.Errno { m.vault = nil; return api.ErrPower },
	} {
		m := on(t, 100, 8, 1)
		m.commit(put("a", long(900, "a")))
		m.vault.Checkpoint()
		want := hurt(m)
		_, _, e := m.vault.Get("a")
		l, e2 := m.vault.Range("", "", 9)
		done, e3 := m.vault.Rotate()
		heads, e4 := m.vault.Heads()
		e5, e6, e7 := m.vault.Commit(nil), m.vault.Checkpoint(), m.vault.Stuck()
		for k, e := range []api.Errno{e, e2, e3, e4, e5, e6, e7} {
			if e != want {
				t.Errorf("case %d: call %d: %d, not %d", i, k, e, want)
			}
		}
		if l != nil || done || heads != nil || m.vault.Stat() != (api.Stat{}) {
			t.Errorf("case %d: something is told", i)
		}
	}
}

func TestEveryBlockThatCountsIsGuarded(t *testing.T) {
	grown := func() *machine {
		m := on(t, 60, 8, 1)
		m.commit(put("a", long(900, "a")), put("b", "short"))
		m.vault.Checkpoint()
		m.commit(put("c", long(600, "c")))
		return m
	}
	want := grown().all()
	broken := 0
	for n := range 60 {
		for _, at := range []int{0, 4, 12, 16, 300, 511} {
			m := grown()
			was, _ := m.disk.Read(n)
			changed := []byte(was)
			changed[at] ^= 1
			m.disk.Poke(n, string(changed))
			switch e := m.open(); e {
			case api.OK:
				if !maps.Equal(m.all(), want) {
					t.Errorf("byte %d of block %d: another store", at, n)
				}
			case api.ErrIntegrity:
				broken++
			default:
				t.Errorf("byte %d of block %d: %d", at, n, e)
			}
		}
	}
	if broken != 6*(1+2+1+3) {
		t.Errorf("%d are broken", broken)
	}
}

func TestElderImages(t *testing.T) {
	m := on(t, 60, 4, 8)
	var images [][]string
	for i := range 14 {
		images = append(images, m.disk.Image())
		m.commit(put(fmt.Sprint(i%5), fmt.Sprint(i)))
		if i%4 == 3 {
			m.vault.Rotate()
		}
	}
	want, now := m.all(), m.disk.Image()
	bring := func(n int, image []string) {
		m.disk.Poke(n, image[n])
	}
	for i, image := range images {
		for n := range now {
			bring(n, image)
		}
		if e := m.open(); e != api.ErrIntegrity {
			t.Errorf("image %d: %d", i, e)
		}
		for n := range now {
			bring(n, now)
		}
		for n := range now {
			bring(n, image)
			if e := m.open(); e != api.ErrIntegrity && (e != api.OK || !maps.Equal(m.all(), want)) {
				t.Errorf("block %d of image %d: %d", n, i, e)
			}
			bring(n, now)
		}
	}
	if e := m.open(); e != api.OK || !maps.Equal(m.all(), want) {
		t.Errorf("the last image: %d", e)
	}
}

// step is an act of the crash tests: what the store must hold behind it.
func (m *machine) step(i int, want map[string]string) api.Errno {
	switch {
	case i%7 == 5:
		return m.vault.Checkpoint()
	case i%5 == 3:
		_, e := m.vault.Rotate()
		return e
	}
	key := fmt.Sprint(i % 6)
	l := []api.Change{put(key, long(37*i, "v")), put("last", fmt.Sprint(i))}
	want[key], want["last"] = l[0].Value, l[1].Value
	if i%4 == 0 {
		other := fmt.Sprint((i + 3) % 6)
		l = append(l, gone(other))
		delete(want, other)
	}
	return m.vault.Commit(l)
}

// up lets the store be opened, however often the power fails in opening.
func (m *machine) up() api.Errno {
	e := api.ErrPower
	for tries := 0; e == api.ErrPower && tries < 9; tries++ {
		m.disk.Up()
		e = m.open()
	}
	return e
}

func TestFailuresOfThePower(t *testing.T) {
	fates := []uint64{0, 0x5555555555555555, 0xaaaaaaaaaaaaaaaa, 0xffffffffffffffff, 0x1b1b1b1b1b1b1b1b, 0xe4e4e4e4e4e4e4e4}
	for cut := 1; ; cut++ {
		m := off(t, 120, 5, 3, api.Cut{At: cut, Fates: fates[cut%len(fates)]}, api.Cut{At: cut + 1 + cut%4, Fates: fates[cut%5]})
		before, want := map[string]string{}, map[string]string{}
		e := m.open()
		for i := 0; e == api.OK && i < 30; i++ {
			before = maps.Clone(want)
			e = m.step(i, want)
		}
		if e == api.OK {
			if cut < 100 {
				t.Errorf("only %d acts", cut)
			}
			return
		}
		if e != api.ErrPower {
			t.Fatalf("act %d: %d", cut, e)
		}
		number := m.device.Counter()
		e = m.up()
		if e != api.OK || m.device.Counter() < number {
			t.Fatalf("act %d: opened behind it: %d, number %d behind %d", cut, e, m.device.Counter(), number)
		}
		got := m.all()
		if !maps.Equal(got, before) && !maps.Equal(got, want) {
			t.Fatalf("act %d: neither what was nor what is to be", cut)
		}
		for range 6 {
			if e := m.up(); e != api.OK || !maps.Equal(m.all(), got) {
				t.Fatalf("act %d: opened again it is another one, %d", cut, e)
			}
		}
		m.commit(put("more", "v"))
		m.turn()
	}
}

func TestNoHeadSealsTwoThings(t *testing.T) {
	seen := map[api.Head]string{}
	m := off(t, 120, 5, 3)
	look := func() {
		for _, s := range m.disk.Image() {
			h, _ := block.Head(s)
			if h.Index == 0 {
				continue
			}
			if was, ok := seen[h]; ok && was != s {
				t.Fatalf("%v seals two things", h)
			}
			seen[h] = s
		}
	}
	want := map[string]string{}
	chance := rand.New(rand.NewSource(5))
	for i := range 400 {
		if m.vault == nil || m.vault.Stuck() != api.OK {
			m.disk.Up()
			m.open()
			look()
			continue
		}
		if chance.Intn(4) == 0 {
			m.disk.Plan(1+chance.Intn(12), 0x5555555555555555)
		}
		m.step(i%30, want)
		look()
	}
	if len(seen) < 200 {
		t.Errorf("only %d heads", len(seen))
	}
}

func TestOpenTellsOtherThings(t *testing.T) {
	lay := func(change func(m *machine, a *api.Anchor)) api.Errno {
		m := on(t, 60, 8, 4)
		m.commit(put("a", long(900, "a")))
		m.vault.Checkpoint()
		m.commit(put("b", "v"))
		a := m.vault.next()
		change(m, &a)
		m.vault.lay(a)
		return m.open()
	}
	if e := lay(func(m *machine, a *api.Anchor) {}); e != api.OK {
		t.Errorf("no change: %d", e)
	}
	for i, change := range []func(m *machine, a *api.Anchor){
		func(m *machine, a *api.Anchor) { a.Many = 0 },
		func(m *machine, a *api.Anchor) { a.Many = 9 },
		func(m *machine, a *api.Anchor) { a.From = 30 },
		func(m *machine, a *api.Anchor) { a.From++ },
		func(m *machine, a *api.Anchor) { a.Chain = noChain() },
		func(m *machine, a *api.Anchor) { a.Root.Sum = long(32, "x") },
		func(m *machine, a *api.Anchor) { a.Root.Place = 59 },
		func(m *machine, a *api.Anchor) { a.Root.Place = 2000 },
		func(m *machine, a *api.Anchor) { r, _ := m.vault.pager.Write("no node"); a.Root = r },
		func(m *machine, a *api.Anchor) {
			a.Root, _ = tree.Put(m.vault.pager, a.Root, "x", "\x02no value")
		},
		func(m *machine, a *api.Anchor) {
			r, _ := blob.Put(m.vault.pager, "text")
			a.Root, _ = tree.Put(m.vault.pager, a.Root, "x", longMark+string([]byte{byte(r.Place)})+r.Sum)
			a.Root, _ = tree.Put(m.vault.pager, a.Root, "y", longMark+string([]byte{byte(r.Place)})+r.Sum)
		},
		func(m *machine, a *api.Anchor) { m.vault.ring.First = 0; m.setup.Log = 30 },
	} {
		if e := lay(change); e != api.ErrIntegrity {
			t.Errorf("case %d: %d", i, e)
		}
	}
	for _, first := range []string{"\x00", "\x02", "\x03", "\xff"} {
		m := on(t, 60, 8, 4)
		m.device.Bump(first + m.device.Register()[1:])
		if e := m.open(); e != api.ErrIntegrity {
			t.Errorf("slot %q: %d", first, e)
		}
	}
}
