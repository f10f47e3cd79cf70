package line

import (
	"testing"

	"lichen/api"
)

func TestNumbers(t *testing.T) {
	if api.Lines != 2 || api.LineSize != 16 || api.Size != 4096 || api.ErrLineForm != 1200 {
		t.Error("numbers of the document")
	}
}

// TestNew: no line is kept, the first one goes first, and no place is found.
func TestNew(t *testing.T) {
	c := New()
	if !same(c, blank().cache()) {
		t.Fatalf("P12.1: New: %v", c)
	}
	if !May(c) {
		t.Errorf("P12.1: %v may not be", c)
	}
	checkFinds(t, c, blank())
}

// TestNewIsNew: each is another one, and the two lists of one share nothing (R4).
func TestNewIsNew(t *testing.T) {
	first, second := New(), New()
	scribble(second)
	if !same(first, blank().cache()) {
		t.Errorf("R4: New told one twice: %v", first)
	}
	if !same(New(), blank().cache()) {
		t.Errorf("R4: New keeps what it told: %v", New())
	}
}

func TestMay(t *testing.T) {
	for _, h := range hands() {
		if c := h.cache(); !May(c) || !May(h.roomy()) {
			t.Errorf("P12.1: May(%v): false", c)
		}
	}
}

func TestMayNot(t *testing.T) {
	for _, w := range wrongs() {
		if May(w.c) {
			t.Errorf("P12.1: %s: May(%v): true", w.name, w.c)
		}
	}
}

// TestMayEachPlace: in each of the lines, beside a line that is kept and beside none, with a text and with none.
func TestMayEachPlace(t *testing.T) {
	s := text16(4)
	for _, other := range []spot{{-1, ""}, {2048, s}} {
		for _, at := range places() {
			places := at >= 0 && at < 4096 && at&15 == 0 && at != other.at
			for i := range 2 {
				h := hand{lines: [2]spot{other, other}}
				h.lines[i] = spot{at, s}
				if c := h.cache(); May(c) != places {
					t.Errorf("P12.1: May(%v): %t", c, !places)
				}
				h.lines[i] = spot{at, ""}
				if c := h.cache(); May(c) != (at == -1) {
					t.Errorf("P12.1: May(%v): %t", c, at != -1)
				}
			}
		}
	}
}

// TestMayEachPair: all places of both lines that there are.
func TestMayEachPair(t *testing.T) {
	s := text16(4)
	for a := 0; a < 4096; a += 16 {
		for b := 0; b < 4096; b += 16 {
			c := api.Cache{At: []int{a, b}, Text: []string{s, s}, Next: (a + b) / 16 % 2}
			if May(c) != (a != b) {
				t.Fatalf("P12.1: May(%v): %t", c, a == b)
			}
		}
	}
}

// TestMayEachLength: texts of all lengths, in each of the lines, of one that is kept and of one that is not.
func TestMayEachLength(t *testing.T) {
	long := text16(1) + text16(2) + text16(3)
	for n := range len(long) + 1 {
		for i := range 2 {
			h := blank()
			h.lines[i] = spot{64, long[:n]}
			if c := h.cache(); May(c) != (n == 16) {
				t.Errorf("P12.1: May(%v): %t", c, n != 16)
			}
			h.lines[i].at = -1
			if c := h.cache(); May(c) != (n == 0) {
				t.Errorf("P12.1: May(%v): %t", c, n != 0)
			}
		}
	}
}

// TestMayEachNext: just 0 and 1 are a line's number.
func TestMayEachNext(t *testing.T) {
	for next := -40; next <= 40; next++ {
		for _, h := range hands() {
			h.next = next
			if c := h.cache(); May(c) != (next == 0 || next == 1) {
				t.Errorf("P12.1: May(%v): %t", c, next != 0 && next != 1)
			}
		}
	}
}
