package handle

import (
	"reflect"
	"testing"
)

func TestASlotEmbedsItsTurnsCounter(t *testing.T) {
	f, ok := reflect.TypeFor[slot]().FieldByName("counter")
	if !ok || !f.Anonymous || f.Type != reflect.TypeFor[counter]() {
		t.Errorf("counter is %v", f)
	}
}

// What is called here of a slot is its counter's.
func TestASlotPromotesItsTurnsCounter(t *testing.T) {
	var s slot
	for turn := 1; turn <= 1000; turn++ {
		if s.turn() != turn || s.counter.turn() != turn {
			t.Fatalf("turn: %d, of its counter %d, want %d", s.turn(), s.counter.turn(), turn)
		}
		if turn%2 == 0 {
			s.end()
		} else {
			s.counter.end()
		}
	}
}

func TestATurnIsTheSlotsOwn(t *testing.T) {
	var a, b slot
	a.end()
	a.end()
	if a.turn() != 3 || b.turn() != 1 {
		t.Errorf("turns: %d and %d", a.turn(), b.turn())
	}
	b.at = 64
	if a.holds() || !b.holds() || b.turn() != 1 {
		t.Errorf("holds: %v and %v, turn %d", a.holds(), b.holds(), b.turn())
	}
}

// The turns of a slot go by what Hold and Drop do, from turn 1 on.
func TestASlotsTurnIsWhatItsHandleSays(t *testing.T) {
	h := New()
	for i := range h.slots {
		if h.slots[i].turn() != 1 || h.slots[i].holds() {
			t.Fatalf("slot %d begins in turn %d", i, h.slots[i].turn())
		}
	}
	for turn := 1; turn <= 100; turn++ {
		x, _ := h.Hold(64)
		if h.slots[0].turn() != turn || x != 512*turn {
			t.Fatalf("turn %d, handle %d, want turn %d", h.slots[0].turn(), x, turn)
		}
		h.Drop(x)
		h.Drop(x)
	}
	if h.slots[0].turn() != 101 || h.slots[1].turn() != 1 {
		t.Errorf("turns: %d and %d", h.slots[0].turn(), h.slots[1].turn())
	}
}
