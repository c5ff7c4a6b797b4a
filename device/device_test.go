package device

import (
	"strings"
	"testing"

	"lodestone/api"
	"lodestone/disk"
)

var key = strings.Repeat("k", api.KeyBytes)

func newDevice(t *testing.T) (*Device, *disk.Disk) {
	t.Helper()
	on, _ := disk.New(1, nil)
	d, e := New(key, on)
	if e != api.OK {
		t.Fatalf("New: %d", e)
	}
	return d, on
}

func TestNew(t *testing.T) {
	d, on := newDevice(t)
	if d.Key() != key || d.Register() != strings.Repeat("\x00", api.RegisterBytes) || d.Counter() != 0 {
		t.Error("a new device is another one")
	}
	for _, k := range []string{"", key[1:], key + "k"} {
		if d, e := New(k, on); d != nil || e != api.ErrInput {
			t.Errorf("New of %d bytes: %d", len(k), e)
		}
	}
	if d, e := New(key, nil); d != nil || e != api.ErrInput {
		t.Errorf("New on no disk: %d", e)
	}
}

func TestBump(t *testing.T) {
	d, on := newDevice(t)
	register := strings.Repeat("r", api.RegisterBytes)
	if e := d.Bump(register); e != api.OK || d.Counter() != 1 || d.Register() != register || on.Acts() != 1 {
		t.Errorf("Bump: %d, number %d, %d acts", e, d.Counter(), on.Acts())
	}
	for _, r := range []string{"", register[1:], register + "r"} {
		if e := d.Bump(r); e != api.ErrInput {
			t.Errorf("Bump of %d bytes: %d", len(r), e)
		}
	}
	if d.Counter() != 1 || on.Acts() != 1 {
		t.Errorf("what may not be counts: number %d, %d acts", d.Counter(), on.Acts())
	}
}

func TestBumpWithoutPowerDoesNothing(t *testing.T) {
	d, on := newDevice(t)
	first := strings.Repeat("1", api.RegisterBytes)
	d.Bump(first)
	on.Plan(1, 0)
	second := strings.Repeat("2", api.RegisterBytes)
	for range 2 {
		if e := d.Bump(second); e != api.ErrPower || d.Counter() != 1 || d.Register() != first {
			t.Errorf("Bump: %d, number %d", e, d.Counter())
		}
	}
	if e := d.Bump(""); e != api.ErrInput {
		t.Errorf("Bump of nothing without power: %d", e)
	}
	on.Up()
	if e := d.Bump(second); e != api.OK || d.Counter() != 2 || d.Register() != second {
		t.Errorf("Bump: %d, number %d", e, d.Counter())
	}
}

func TestNone(t *testing.T) {
	var d *Device
	if d.Key() != "" || d.Register() != "" || d.Counter() != 0 || d.Bump(strings.Repeat("r", api.RegisterBytes)) != api.ErrInput {
		t.Error("of none something is told")
	}
}
