package wire

import (
	"math"
	"slices"
	"testing"

	"lichen/api"
	"lichen/cell"
	"lichen/chip"
)

// say, nothing and come are the three kinds of phases; row is a list of them.
func say(lanes int, bytes ...int) api.Phase { return api.Phase{Lanes: lanes, Bytes: bytes} }
func nothing(clocks int) api.Phase          { return api.Phase{Clocks: clocks} }
func come(lanes int, read int) api.Phase    { return api.Phase{Lanes: lanes, Read: read} }
func row(ps ...api.Phase) []api.Phase       { return ps }

// some is n bytes that differ from their neighbours.
func some(n int) []int {
	xs := make([]int, n)
	for i := range xs {
		xs[i] = (i*37 + 11) % 256
	}
	return xs
}

// copyOf is a row that shares nothing with the one it is of.
func copyOf(ps []api.Phase) []api.Phase {
	all := slices.Clone(ps)
	for i := range all {
		all[i].Bytes = slices.Clone(all[i].Bytes)
	}
	return all
}

// samePhase: an empty list and nil are one.
func samePhase(a, b api.Phase) bool {
	return a.Lanes == b.Lanes && slices.Equal(a.Bytes, b.Bytes) && a.Clocks == b.Clocks && a.Read == b.Read
}

// tick is a clock by hand: what goes onto the lanes; on how many lanes a byte comes (0: none), and whether this is its last clock.
type tick struct {
	in    int
	lanes int
	last  bool
}

// bits says bytes on the lowest lane, the others up, the highest bit first.
func bits(xs ...int) []tick {
	var all []tick
	for _, x := range xs {
		for _, worth := range []int{128, 64, 32, 16, 8, 4, 2, 1} {
			if x/worth%2 == 1 {
				all = append(all, tick{in: 15})
			} else {
				all = append(all, tick{in: 14})
			}
		}
	}
	return all
}

// halves says bytes on four lanes, the higher half first.
func halves(xs ...int) []tick {
	var all []tick
	for _, x := range xs {
		all = append(all, tick{in: x / 16}, tick{in: x % 16})
	}
	return all
}

// quiet says nothing.
func quiet(n int) []tick {
	return slices.Repeat([]tick{{in: 15}}, n)
}

// hear1 and hear4 say nothing while n bytes come, on one lane and on four.
func hear1(n int) []tick {
	byOne := append(slices.Repeat([]tick{{in: 15, lanes: 1}}, 7), tick{in: 15, lanes: 1, last: true})
	return slices.Repeat(byOne, n)
}

func hear4(n int) []tick {
	return slices.Repeat([]tick{{in: 15, lanes: 4}, {in: 15, lanes: 4, last: true}}, n)
}

// join lays clocks one behind another.
func join(parts ...[]tick) []tick { return slices.Concat(parts...) }

// byHand works a row out, phase by phase.
func byHand(ps []api.Phase) []tick {
	var all []tick
	for _, p := range ps {
		switch {
		case p.Clocks > 0:
			all = append(all, quiet(p.Clocks)...)
		case p.Read > 0 && p.Lanes == 1:
			all = append(all, hear1(p.Read)...)
		case p.Read > 0:
			all = append(all, hear4(p.Read)...)
		case p.Lanes == 1:
			all = append(all, bits(p.Bytes...)...)
		default:
			all = append(all, halves(p.Bytes...)...)
		}
	}
	return all
}

// run drives a chip by hand: it is selected, has the clocks (at most so many, if most is not below 0), and is deselected if these were all.
func run(t *testing.T, c *chip.Chip, ticks []tick, most int) (read []int, whole bool) {
	t.Helper()
	if e := c.Select(); e != api.OK {
		t.Fatalf("by hand: Select: error %d", e)
	}
	b := 0
	for i, k := range ticks {
		if i == most {
			return read, false
		}
		says, e := c.Clock(k.in)
		if e != api.OK {
			t.Fatalf("by hand: Clock(%d): error %d", k.in, e)
		}
		switch k.lanes {
		case 1:
			b = b*2 + says/2%2
		case 4:
			b = b*16 + says
		}
		if k.last {
			read, b = append(read, b), 0
		}
	}
	if e := c.Deselect(); e != api.OK {
		t.Fatalf("by hand: Deselect: error %d", e)
	}
	return read, true
}

// pattern is cells of which no two neighbouring pages or sectors are alike.
func pattern() string {
	cells := make([]byte, api.Size)
	for i := range cells {
		cells[i] = byte(i*7 + i/256*11 + 5)
	}
	return string(cells)
}

// fresh is a chip with patterned cells on which reads on four lanes may be, and for which some durations come.
func fresh(t *testing.T, busy ...int) *chip.Chip {
	t.Helper()
	return freshOf(t, pattern(), busy...)
}

func freshOf(t *testing.T, cells string, busy ...int) *chip.Chip {
	t.Helper()
	c, e := chip.New(cells)
	if e != api.OK {
		t.Fatalf("P6.1: New: error %d", e)
	}
	run(t, c, bits(6), -1)
	run(t, c, bits(1, 0, 2), -1)
	if e := c.Next(busy); e != api.OK {
		t.Fatalf("P6.1: Next(%v): error %d", busy, e)
	}
	return c
}

// blank is a chip none of whose bits has fallen.
func blank(t *testing.T, busy ...int) *chip.Chip {
	t.Helper()
	return freshOf(t, cell.Blank(), busy...)
}

// told wants two chips to tell the same of themselves.
func told(t *testing.T, what string, got, want *chip.Chip) {
	t.Helper()
	if got.Cells() != want.Cells() {
		t.Fatalf("%s: other cells than by hand", what)
	}
	first, second := got.Status()
	x, y := want.Status()
	if first != x || second != y {
		t.Fatalf("%s: status %d, %d; by hand %d, %d", what, first, second, x, y)
	}
	if !slices.Equal(got.Wipes(), want.Wipes()) {
		t.Fatalf("%s: Wipes %v; by hand %v", what, got.Wipes(), want.Wipes())
	}
}

// both gives two chips the same clocks, at each of which they must tell the same.
func both(t *testing.T, what string, got, want *chip.Chip, ins ...int) {
	t.Helper()
	for i, in := range ins {
		x, _ := got.Clock(in)
		y, _ := want.Clock(in)
		if x != y {
			t.Fatalf("%s: clock %d behind it: the chip says %d; by hand %d", what, i, x, y)
		}
		told(t, what, got, want)
	}
}

// alike wants two chips to be the same in whatever can be told: as they are, as they go on, deselected, and selected again.
func alike(t *testing.T, what string, got, want *chip.Chip) {
	t.Helper()
	told(t, what, got, want)
	both(t, what, got, want, 15, 14, 0, 9, 15, 15, 3, 14)
	both(t, what, got, want, slices.Repeat([]int{15}, 40)...)
	if x, y := got.Deselect(), want.Deselect(); x != y {
		t.Fatalf("%s: Deselect: error %d; by hand %d", what, x, y)
	}
	told(t, what, got, want)
	if x, y := got.Select(), want.Select(); x != api.OK || y != api.OK {
		t.Fatalf("%s: Select: error %d; by hand %d", what, x, y)
	}
	both(t, what, got, want, slices.Repeat([]int{15}, 30)...)
	got.Deselect()
	want.Deselect()
	for range api.MaxBusy {
		got.Clock(15)
		want.Clock(15)
	}
	told(t, what, got, want)
}

// wrong is a phase that may not be.
type wrong struct {
	why string
	p   api.Phase
}

// wrongs are phases that may not be, each for one thing alone, made anew for each who asks.
func wrongs() []wrong {
	all := []wrong{
		{"nothing at all", api.Phase{}},
		{"an empty list", api.Phase{Bytes: []int{}}},
		{"no bytes on one lane", api.Phase{Lanes: 1}},
		{"no bytes on four lanes", api.Phase{Lanes: 4, Bytes: []int{}}},
		{"bytes and clocks", api.Phase{Lanes: 1, Bytes: []int{1}, Clocks: 1}},
		{"bytes and clocks on no lanes", api.Phase{Bytes: []int{1}, Clocks: 1}},
		{"bytes and a read", api.Phase{Lanes: 1, Bytes: []int{1}, Read: 1}},
		{"bytes and a read on four lanes", api.Phase{Lanes: 4, Bytes: []int{1}, Read: 1}},
		{"clocks and a read", api.Phase{Clocks: 1, Read: 1}},
		{"clocks and a read on one lane", api.Phase{Lanes: 1, Clocks: 1, Read: 1}},
		{"clocks and a read on four lanes", api.Phase{Lanes: 4, Clocks: 1, Read: 1}},
		{"all three", api.Phase{Lanes: 1, Bytes: []int{1}, Clocks: 1, Read: 1}},
		{"all three on four lanes", api.Phase{Lanes: 4, Bytes: []int{1}, Clocks: 1, Read: 1}},
		{"all three on no lanes", api.Phase{Bytes: []int{1}, Clocks: 1, Read: 1}},
		{"bytes and clocks below 0", api.Phase{Lanes: 1, Bytes: []int{1}, Clocks: -1}},
		{"bytes and a read below 0", api.Phase{Lanes: 1, Bytes: []int{1}, Read: -1}},
		{"bytes, and as many less to read", api.Phase{Lanes: 4, Bytes: []int{1, 2}, Read: -2}},
		{"clocks and a read below 0", api.Phase{Clocks: 5, Read: -1}},
		{"a read and clocks below 0", api.Phase{Lanes: 4, Read: 3, Clocks: -1}},
		{"clocks on one lane", api.Phase{Lanes: 1, Clocks: 1}},
		{"clocks on four lanes", api.Phase{Lanes: 4, Clocks: 1}},
	}
	for _, n := range []int{513, 514, 1024, 4096} {
		all = append(all, wrong{"too many bytes", say(1, some(n)...)}, wrong{"too many bytes on four lanes", say(4, some(n)...)})
	}
	for _, x := range []int{-1, 256, -255, -256, 257, 512, 1 << 32, math.MinInt, math.MaxInt} {
		all = append(all, wrong{"no byte", say(1, x)}, wrong{"no byte at the last place", say(4, 1, 2, x)}, wrong{"no byte in the middle", say(1, 1, x, 3)}, wrong{"no byte at the first place", say(4, x, 2, 3)})
	}
	for _, lanes := range []int{0, 2, 3, 5, -1, -4, 6, 8, 16, 1<<32 + 1, math.MinInt, math.MaxInt} {
		all = append(all, wrong{"lanes of bytes", say(lanes, 1)}, wrong{"lanes of a read", come(lanes, 1)})
		if lanes != 0 {
			all = append(all, wrong{"lanes of clocks", api.Phase{Lanes: lanes, Clocks: 1}})
		}
	}
	for _, n := range []int{-1, 401, -2, -400, 402, 1 << 32, math.MinInt, math.MaxInt} {
		all = append(all, wrong{"clocks", nothing(n)})
	}
	for _, n := range []int{-1, 513, -2, -512, 514, 1 << 32, math.MinInt, math.MaxInt} {
		all = append(all, wrong{"a read", come(1, n)}, wrong{"a read on four lanes", come(4, n)})
	}
	return all
}

// rowsWith are rows that have the phase: alone, at the first, a middle and the last place, and at all of them.
func rowsWith(p api.Phase) [][]api.Phase {
	return [][]api.Phase{
		row(p),
		row(p, nothing(2), come(1, 3)),
		row(say(1, 159), p, come(1, 3)),
		row(say(1, 159), come(1, 3), p),
		row(p, p, p),
	}
}
