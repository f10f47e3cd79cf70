package sfdp_test

import (
	"strings"
	"testing"

	"lichen/api"
	"lichen/cell"
	"lichen/chip"
	"lichen/sfdp"
)

// send gives a byte to a chip, a bit a clock, the highest first.
func send(t *testing.T, c *chip.Chip, b int) {
	t.Helper()
	for bit := 7; bit >= 0; bit-- {
		if _, e := c.Clock(b >> bit & 1); e != api.OK {
			t.Fatalf("clock: error %d", e)
		}
	}
}

// hear takes a byte of a chip, which says it on the second lowest lane.
func hear(t *testing.T, c *chip.Chip) byte {
	t.Helper()
	b := 0
	for range 8 {
		out, e := c.Clock(0)
		if e != api.OK {
			t.Fatalf("clock: error %d", e)
		}
		b = b<<1 | out>>1&1
	}
	return byte(b)
}

// ask is n bytes that a chip tells by OpSfdp from at on.
func ask(t *testing.T, c *chip.Chip, at, n int) string {
	t.Helper()
	if e := c.Select(); e != api.OK {
		t.Fatalf("select: error %d", e)
	}
	for _, b := range []int{api.OpSfdp, at >> 16, at >> 8 & 255, at & 255, 0} {
		send(t, c, b)
	}
	text := make([]byte, n)
	for i := range text {
		text[i] = hear(t, c)
	}
	if e := c.Deselect(); e != api.OK {
		t.Fatalf("deselect: error %d", e)
	}
	return string(text)
}

// Layer 6 tells what layer 7 puts, and layer 7 gets from it what the chip is like.
func TestChipTellsWhatIsPut(t *testing.T) {
	c, e := chip.New(cell.Blank())
	if e != api.OK {
		t.Fatalf("new: error %d", e)
	}
	want, e := sfdp.Put(api.Size, api.SectorSize, api.Page)
	if e != api.OK {
		t.Fatalf("P7.1: put: error %d", e)
	}
	told := ask(t, c, 0, api.SfdpSize)
	if told != want {
		t.Errorf("P6.2, P7.1: the chip tells %q; wanted %q", told, want)
	}
	size, sector, page, e := sfdp.Get(told)
	if size != 4096 || sector != 512 || page != 32 || e != api.OK {
		t.Errorf("P7.1: Get(%q): %d, %d, %d, error %d", told, size, sector, page, e)
	}
	for at := range 2 * api.SfdpSize {
		from := at % api.SfdpSize
		if got := ask(t, c, at, 40); got != strings.Repeat(want, 3)[from:from+40] {
			t.Errorf("P6.2, P7.1: from %d on the chip tells %q", at, got)
		}
	}
}
