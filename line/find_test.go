package line

import (
	"strings"
	"testing"

	"lichen/api"
)

func TestFindByHand(t *testing.T) {
	c := api.Cache{At: []int{32, 16}, Text: []string{"abcdefghijklmnop", "\x00123456789ABCDE\xff"}, Next: 1}
	for _, x := range []struct {
		at, want int
		has      bool
	}{
		{14, 0, false}, {15, 0, false},
		{16, 0, true}, {17, '1', true}, {30, 'E', true}, {31, 255, true},
		{32, 'a', true}, {33, 'b', true}, {46, 'o', true}, {47, 'p', true},
		{48, 0, false}, {0, 0, false}, {-1, 0, false}, {-16, 0, false}, {4095, 0, false}, {4096, 0, false},
	} {
		if got, has := Find(c, x.at); got != x.want || has != x.has {
			t.Errorf("P12.1: Find(.., %d): %d, %t; wanted %d, %t", x.at, got, has, x.want, x.has)
		}
	}
}

// TestFind: all places, of each cache that may be.
func TestFind(t *testing.T) {
	for _, h := range hands() {
		checkFinds(t, h.cache(), h)
		checkFinds(t, h.roomy(), h)
	}
}

// TestFindEachLine: a line at each place there is, in each of the lines, with the places on both sides of it.
func TestFindEachLine(t *testing.T) {
	for begin := 0; begin < 4096; begin += 16 {
		for i := range 2 {
			h := blank()
			h.lines[i] = spot{begin, text16(begin + i)}
			c := h.cache()
			for at := begin - 20; at < begin+36; at++ {
				want, is := h.find(at)
				if got, has := Find(c, at); got != want || has != is {
					t.Fatalf("P12.1: Find(%v, %d): %d, %t; wanted %d, %t", c, at, got, has, want, is)
				}
			}
		}
	}
}

// TestFindEachByte: each byte there is, at each place of each of the lines.
func TestFindEachByte(t *testing.T) {
	for b := range 256 {
		for behind := range 16 {
			for i := range 2 {
				text := []byte(strings.Repeat(string([]byte{byte(b + 1)}), 16))
				text[behind] = byte(b)
				h := blank()
				h.lines[i] = spot{96, string(text)}
				if got, has := Find(h.cache(), 96+behind); got != b || !has {
					t.Fatalf("P12.1: Find(%v, %d): %d, %t; wanted %d", h, 96+behind, got, has, b)
				}
			}
		}
	}
}

// TestFindInNone: in a cache that may not be nothing is found, not even in a line that is right.
func TestFindInNone(t *testing.T) {
	ats := []int{-17, -16, -15, -2, -1, 0, 1, 8, 15, 16, 17, 31, 160, 170, 512, 1024, 1030, 2048, 4064, 4079, 4080, 4095, 4096, 4097, 1 << 32, 1 << 62}
	for _, w := range wrongs() {
		for _, at := range append(ats, w.c.At...) {
			if got, has := Find(w.c, at); got != 0 || has {
				t.Fatalf("P12.1: %s: Find(%v, %d): %d, %t", w.name, w.c, at, got, has)
			}
		}
	}
}

// TestAskingTurnsNothing: what is handed in stays as it was, its spare room too (R4).
func TestAskingTurnsNothing(t *testing.T) {
	for _, h := range hands() {
		c := h.roomy()
		for range 2 {
			May(c)
			for _, at := range []int{-1, 0, 20, 4095, 4096} {
				Find(c, at)
			}
		}
		checkRoomy(t, c, h)
	}
}

// checkRoomy wants h's cache, as roomy made it.
func checkRoomy(t *testing.T, c api.Cache, h hand) {
	t.Helper()
	whole := api.Cache{At: c.At[:5], Text: c.Text[:5], Next: c.Next}
	want := h.roomy()
	want.At, want.Text = want.At[:5], want.Text[:5]
	if !same(whole, want) {
		t.Fatalf("R4: what was handed in, with its spare room, is %v, was %v", whole, want)
	}
}
