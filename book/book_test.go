package book

import (
	"strconv"
	"testing"

	"lodestone/api"
	"lodestone/sha"
)

func TestSumIsNotedOnce(t *testing.T) {
	b := New()
	for range 2 {
		if b.Sum("a") != sha.Sum("a") || b.Len() != 1 {
			t.Errorf("%d are noted", b.Len())
		}
	}
	if b.Sum("") != sha.Sum("") || b.Len() != 2 || b.Full() {
		t.Errorf("%d are noted", b.Len())
	}
	if one, other, ok := b.Twins(); one != "" || other != "" || ok {
		t.Error("twins that are none")
	}
}

func TestTwins(t *testing.T) {
	b := New()
	b.note("sum", "first")
	b.note("sum", "first")
	if _, _, ok := b.Twins(); ok {
		t.Error("a text is its own twin")
	}
	b.note("sum", "second")
	b.note("sum", "third")
	b.note("another sum", "fourth")
	one, other, ok := b.Twins()
	if one != "first" || other != "second" || !ok || b.Len() != 1 || b.Full() {
		t.Errorf("twins %q and %q, %v, of %d", one, other, ok, b.Len())
	}
}

func TestFull(t *testing.T) {
	b := New()
	for i := range api.MostBook {
		b.Sum(strconv.Itoa(i))
	}
	b.Sum("0")
	if b.Len() != api.MostBook || b.Full() {
		t.Errorf("%d, full %v", b.Len(), b.Full())
	}
	if b.Sum("one more") != sha.Sum("one more") || b.Len() != api.MostBook || !b.Full() {
		t.Errorf("%d, full %v", b.Len(), b.Full())
	}
}

func TestNone(t *testing.T) {
	var b *Book
	_, _, ok := b.Twins()
	if b.Sum("a") != sha.Sum("a") || b.Len() != 0 || b.Full() || ok {
		t.Error("of none something is told")
	}
	var blank Book
	if blank.Sum("a") != sha.Sum("a") || blank.Len() != 1 {
		t.Error("a book by its type alone notes nothing")
	}
}

func TestReal(t *testing.T) {
	if Real("a", "a") || Real("a", "b") || Real("", "") {
		t.Error("twins that are none")
	}
}
