package wire

import (
	"math"
	"math/rand"
	"slices"
	"sync"
	"testing"

	"lichen/api"
	"lichen/chip"
)

// check drives a row on one chip and the clocks by hand on another: what was read, how many clocks, whether it was whole, and what the chips tell of themselves.
func check(t *testing.T, what string, got, want *chip.Chip, ps []api.Phase, ticks []tick, most int) []int {
	t.Helper()
	was := copyOf(ps)
	read, n, whole, e := Drive(got, ps, most)
	hand, all := run(t, want, ticks, most)
	clocks := len(ticks)
	if !all {
		clocks = most
	}
	if e != api.OK || n != clocks || whole != all || !slices.Equal(read, hand) {
		t.Fatalf("P10.2: %s, most %d: %v, %d clocks, %v, error %d; by hand %v, %d clocks, %v", what, most, read, n, whole, e, hand, clocks, all)
	}
	if !slices.EqualFunc(ps, was, samePhase) {
		t.Fatalf("R4: %s: the row is %v, was %v", what, ps, was)
	}
	told(t, "P10.2: "+what, got, want)
	return read
}

// refuseDrive wants an error, and beside it nothing (R2).
func refuseDrive(t *testing.T, what string, c *chip.Chip, ps []api.Phase, most int, want api.Errno) {
	t.Helper()
	read, n, whole, e := Drive(c, ps, most)
	if e != want || len(read) != 0 || n != 0 || whole {
		t.Errorf("P10.2: %s, most %d: %v, %d clocks, %v, error %d; wanted nothing, error %d", what, most, read, n, whole, e, want)
	}
}

// mosts are bounds of all kinds.
func mosts() []int {
	return []int{-1, 0, 1, 8, 1000, math.MinInt, math.MaxInt}
}

// scene is rows that are driven one behind another, each with its clocks by hand.
type scene struct {
	what  string
	rows  [][]api.Phase
	ticks [][]tick
}

func (s scene) with(ps []api.Phase, ticks []tick) scene {
	s.rows, s.ticks = append(s.rows, ps), append(s.ticks, ticks)
	return s
}

// readScenes are commands that are told something.
func readScenes() []scene {
	return []scene{
		scene{what: "nothing"}.with(nil, nil).with(row(), nil),
		scene{what: "the identity"}.with(row(say(1, 159), come(1, 3)), join(bits(159), hear1(3))).
			with(row(say(1, 159), come(1, 1), come(1, 7)), join(bits(159), hear1(8))),
		scene{what: "the status"}.with(row(say(1, 5), come(1, 1)), join(bits(5), hear1(1))).
			with(row(say(1, 6)), bits(6)).
			with(row(say(1, 5), come(1, 2)), join(bits(5), hear1(2))).
			with(row(say(1, 53), come(1, 2)), join(bits(53), hear1(2))).
			with(row(say(1, 4)), bits(4)).
			with(row(say(1, 5), come(1, 3)), join(bits(5), hear1(3))),
		scene{what: "a read on one lane"}.with(row(say(1, 3), say(1, 0, 10, 1), come(1, 20)), join(bits(3, 0, 10, 1), hear1(20))).
			with(row(say(1, 3, 0, 15, 250), come(1, 12)), join(bits(3, 0, 15, 250), hear1(12))).
			with(row(say(1, 3), say(1, 0), say(1, 1, 7), nothing(11), come(1, 2)), join(bits(3, 0, 1, 7), quiet(11), hear1(2))),
		scene{what: "a whole sector on one lane"}.with(row(say(1, 3), say(1, 0, 2, 0), come(1, 512)), join(bits(3, 0, 2, 0), hear1(512))),
		scene{what: "what a chip is like"}.with(row(say(1, 90), say(1, 0, 0, 3), nothing(8), come(1, 40)), join(bits(90, 0, 0, 3), quiet(8), hear1(40))),
		scene{what: "a read on four lanes"}.with(row(say(1, 107), say(1, 0, 2, 1), nothing(8), come(4, 20)), join(bits(107, 0, 2, 1), quiet(8), hear4(20))).
			with(row(say(1, 107), say(1, 0, 15, 250), nothing(8), come(4, 512)), join(bits(107, 0, 15, 250), quiet(8), hear4(512))),
		scene{what: "a read on four lanes, its address too"}.with(row(say(1, 235), say(4, 0, 3, 3), say(4, 0), nothing(4), come(4, 16)), join(bits(235), halves(0, 3, 3, 0), quiet(4), hear4(16))).
			with(row(say(1, 5), come(1, 1)), join(bits(5), hear1(1))),
		scene{what: "a read that goes on"}.with(row(say(1, 235), say(4, 0, 3, 3), say(4, 160), nothing(4), come(4, 16)), join(bits(235), halves(0, 3, 3, 160), quiet(4), hear4(16))).
			with(row(say(4, 0, 11, 255), say(4, 160), nothing(4), come(4, 9)), join(halves(0, 11, 255, 160), quiet(4), hear4(9))).
			with(row(say(4, 0, 0, 0), say(4, 0)), halves(0, 0, 0, 0)).
			with(row(say(1, 159), come(1, 3)), join(bits(159), hear1(3))),
	}
}

// writeScenes are commands that change something.
func writeScenes() []scene {
	page := some(32)
	return []scene{
		scene{what: "a page"}.with(row(say(1, 6)), bits(6)).
			with(row(say(1, 2), say(1, 0, 10, 0), say(1, page...)), join(bits(2, 0, 10, 0), bits(page...))).
			with(row(say(1, 5), come(1, 4)), join(bits(5), hear1(4))).
			with(row(say(1, 3), say(1, 0, 10, 0), come(1, 33)), join(bits(3, 0, 10, 0), hear1(33))),
		scene{what: "around a page"}.with(row(say(1, 6)), bits(6)).
			with(row(say(1, 2), say(1, 0, 13, 19), say(1, 1, 2), say(1, some(40)...)), join(bits(2, 0, 13, 19), bits(1, 2), bits(some(40)...))).
			with(row(say(1, 53), come(1, 9)), join(bits(53), hear1(9))),
		scene{what: "a sector erased"}.with(row(say(1, 6)), bits(6)).
			with(row(say(1, 32), say(1, 0, 11, 7)), bits(32, 0, 11, 7)).
			with(row(say(1, 5), come(1, 6)), join(bits(5), hear1(6))),
		scene{what: "an erase suspended"}.with(row(say(1, 6)), bits(6)).
			with(row(say(1, 32), say(1, 0, 11, 7)), bits(32, 0, 11, 7)).
			with(row(say(1, 117)), bits(117)).
			with(row(say(1, 3), say(1, 0, 11, 0), come(1, 5)), join(bits(3, 0, 11, 0), hear1(5))).
			with(row(say(1, 122)), bits(122)).
			with(row(say(1, 53), come(1, 2)), join(bits(53), hear1(2))),
		scene{what: "protected, and not quad any more"}.with(row(say(1, 6)), bits(6)).
			with(row(say(1, 1), say(1, 4, 0)), bits(1, 4, 0)).
			with(row(say(1, 107), say(1, 0, 2, 1), nothing(8), come(4, 3)), join(bits(107, 0, 2, 1), quiet(8), hear4(3))).
			with(row(say(1, 6)), bits(6)).
			with(row(say(1, 32), say(1, 0, 1, 0)), bits(32, 0, 1, 0)).
			with(row(say(1, 5), come(1, 1)), join(bits(5), hear1(1))),
		scene{what: "two commands in one row are none"}.with(row(say(1, 6), say(1, 32), say(1, 0, 11, 7)), bits(6, 32, 0, 11, 7)).
			with(row(say(1, 6), nothing(1)), join(bits(6), quiet(1))).
			with(row(say(1, 5), come(1, 1)), join(bits(5), hear1(1))),
		scene{what: "an erase with a clock more"}.with(row(say(1, 6)), bits(6)).
			with(row(say(1, 32), say(1, 0, 11, 7), nothing(1)), join(bits(32, 0, 11, 7), quiet(1))),
	}
}

// oddScenes show what is on the lanes where a phase and the chip are not of one mind.
func oddScenes() []scene {
	return []scene{
		scene{what: "an address on one lane, heard on four"}.with(row(say(1, 235), say(1, 170), nothing(4), come(4, 4)), join(bits(235, 170), quiet(4), hear4(4))),
		scene{what: "an address on four lanes, heard on one"}.with(row(say(1, 3), say(4, some(12)...), come(1, 4)), join(bits(3), halves(some(12)...), hear1(4))),
		scene{what: "an address of clocks of nothing"}.with(row(say(1, 3), nothing(24), come(1, 3)), join(bits(3), quiet(24), hear1(3))),
		scene{what: "an address heard while bytes come"}.with(row(say(1, 3), come(1, 3), come(1, 2)), join(bits(3), hear1(5))),
		scene{what: "an address on four lanes heard while bytes come"}.with(row(say(1, 235), come(4, 6), come(4, 2)), join(bits(235), hear4(8))),
		scene{what: "told on one lane, read on four"}.with(row(say(1, 159), come(4, 12)), join(bits(159), hear4(12))),
		scene{what: "told on four lanes, read on one"}.with(row(say(1, 107), say(1, 0, 2, 1), nothing(8), come(1, 12)), join(bits(107, 0, 2, 1), quiet(8), hear1(12))),
		scene{what: "bytes while the chip speaks"}.with(row(say(1, 159), say(1, 77), say(4, 200, 3), come(1, 2)), join(bits(159, 77), halves(200, 3), hear1(2))),
		scene{what: "no command"}.with(row(say(1, 7), come(1, 2), come(4, 2)), join(bits(7), hear1(2), hear4(2))),
		scene{what: "a read without a command"}.with(row(come(1, 3), come(4, 3)), join(hear1(3), hear4(3))),
		scene{what: "clocks alone"}.with(row(nothing(400), nothing(3)), quiet(403)),
	}
}

func scenes() []scene {
	return slices.Concat(readScenes(), writeScenes(), oddScenes())
}

// TestScenes drives each scene on a chip, and by hand on another, with durations from short to long.
func TestScenes(t *testing.T) {
	for _, s := range scenes() {
		for _, busy := range [][]int{nil, {1}, {30, 5}, {400}} {
			for _, start := range []func(*testing.T, ...int) *chip.Chip{fresh, blank} {
				got, want := start(t, busy...), start(t, busy...)
				for i := range s.rows {
					check(t, s.what, got, want, s.rows[i], s.ticks[i], -1)
				}
				alike(t, s.what, got, want)
			}
		}
	}
}

// TestByItself holds what is read against what the document says, without a second chip.
func TestByItself(t *testing.T) {
	enable, goOn := row(say(1, 6)), row(say(1, 235), say(4, 0, 0, 0), say(4, 160))
	for _, x := range []struct {
		ahead  []api.Phase // a row of its own
		ps     []api.Phase
		want   []int
		clocks int
	}{
		{nil, nil, nil, 0},
		{nil, row(say(1, 6)), nil, 8},
		{enable, row(say(1, 5), come(1, 2)), []int{2, 2}, 24},
		{enable, row(say(1, 4)), nil, 8},
		{nil, row(say(1, 5), come(1, 1)), []int{0}, 16},
		{nil, row(say(1, 159), come(1, 7)), []int{239, 64, 12, 239, 64, 12, 239}, 64},
		{nil, row(say(1, 53), come(1, 1)), []int{2}, 16},
		{nil, row(say(1, 90), say(1, 0, 0, 0), nothing(8), come(1, 9)), []int{83, 70, 68, 80, 6, 1, 0, 255, 0}, 112},
		{nil, row(say(1, 3), say(1, 0, 0, 0), come(1, 4)), []int{5, 12, 19, 26}, 64},
		{nil, row(say(1, 3), nothing(24), come(1, 2)), []int{163, 5}, 48},
		{nil, row(say(1, 107), say(1, 0, 0, 1), nothing(8), come(4, 3)), []int{12, 19, 26}, 46},
		{nil, row(say(1, 235), say(4, 0, 0, 2), say(4, 160), nothing(4), come(4, 2)), []int{19, 26}, 24},
		{goOn, row(say(4, 0, 1, 0), say(4, 255), nothing(4), come(4, 1)), []int{16}, 14},
		{nil, row(say(1, 235), come(4, 4), nothing(4), come(4, 2)), []int{255, 255, 255, 255, 163, 5}, 24},
		{nil, row(say(1, 235), say(1, 0), nothing(4), come(4, 2)), []int{33, 40}, 24},
		{nil, row(say(1, 159), come(4, 4)), []int{255, 253, 255, 255}, 16},
	} {
		c := fresh(t)
		if _, _, whole, e := Drive(c, x.ahead, -1); !whole || e != api.OK {
			t.Errorf("P10.2: %v: %v, error %d", x.ahead, whole, e)
		}
		got, n, whole, e := Drive(c, x.ps, -1)
		if e != api.OK || n != x.clocks || !whole || !slices.Equal(got, x.want) {
			t.Errorf("P10.2: %v: %v, %d clocks, %v, error %d; wanted %v, %d clocks", x.ps, got, n, whole, e, x.want, x.clocks)
		}
	}
}

// TestNilChip comes ahead of all that else may be wrong (R6).
func TestNilChip(t *testing.T) {
	for _, most := range mosts() {
		refuseDrive(t, "no chip", nil, row(say(1, 159), come(1, 3)), most, api.ErrNil)
		refuseDrive(t, "no chip, and no phases", nil, nil, most, api.ErrNil)
		refuseDrive(t, "no chip, and a wrong phase", nil, row(api.Phase{}), most, api.ErrNil)
	}
}

// busyChips are chips in the midst of something, made anew for each who asks.
func busyChips(t *testing.T) []*chip.Chip {
	erases, suspended, goesOn := fresh(t, 30, 9), fresh(t, 30), fresh(t)
	run(t, erases, bits(6), -1)
	run(t, erases, bits(32, 0, 11, 7), -1)
	run(t, suspended, bits(6), -1)
	run(t, suspended, bits(32, 0, 11, 7), -1)
	run(t, suspended, bits(117), -1)
	run(t, goesOn, join(bits(235), halves(0, 1, 2, 160)), -1)
	return []*chip.Chip{fresh(t, 3), erases, suspended, goesOn}
}

// TestWrongRows: a row with a phase that may not be takes no clock, whatever the chip is in the midst of and whatever the bound.
func TestWrongRows(t *testing.T) {
	for _, w := range wrongs() {
		for _, ps := range rowsWith(w.p) {
			got := busyChips(t)
			for i, want := range busyChips(t) {
				refuseDrive(t, w.why, got[i], ps, -1, api.ErrWireForm)
				refuseDrive(t, w.why, got[i], ps, 0, api.ErrWireForm)
				told(t, w.why, got[i], want)
			}
		}
	}
	for _, w := range []api.Phase{{}, say(1, 256), come(2, 1), nothing(401)} {
		for _, most := range mosts() {
			got := busyChips(t)
			for i, want := range busyChips(t) {
				refuseDrive(t, "wrong", got[i], row(say(1, 6), w), most, api.ErrWireForm)
				alike(t, "P10.2: a wrong row", got[i], want)
			}
		}
	}
}

// TestSelected: a chip that is selected by somebody, with any number of a command's clocks gone, is left to go on with it.
func TestSelected(t *testing.T) {
	for _, ticks := range [][]tick{bits(159), bits(6), bits(3, 0, 10, 1), join(bits(159), hear1(2)), join(bits(235), halves(0, 3, 3, 160), quiet(4), hear4(2))} {
		for gone := range len(ticks) {
			for _, ps := range [][]api.Phase{nil, row(say(1, 159), come(1, 3)), row(nothing(5)), row(api.Phase{})} {
				got, want := fresh(t), fresh(t)
				run(t, got, ticks, gone)
				run(t, want, ticks, gone)
				for _, most := range mosts() {
					refuseDrive(t, "selected already", got, ps, most, api.ErrWireForm)
				}
				if e := got.Select(); e != api.ErrChipForm {
					t.Fatalf("P10.2: selected no more: error %d", e)
				}
				for _, k := range ticks[gone:] {
					both(t, "P10.2: selected already", got, want, k.in)
				}
				alike(t, "P10.2: selected already", got, want)
			}
		}
	}
}

// TestSelectedWhileBusy: what is under way has all its clocks still.
func TestSelectedWhileBusy(t *testing.T) {
	got := busyChips(t)
	for i, want := range busyChips(t) {
		got[i].Select()
		want.Select()
		refuseDrive(t, "selected already", got[i], row(nothing(20)), -1, api.ErrWireForm)
		alike(t, "P10.2: selected already", got[i], want)
	}
}

// TestEachBound cuts the rows of each scene at each bound, at just their clocks, and beyond: where it is cut the chip is selected, and goes on from there.
func TestEachBound(t *testing.T) {
	for _, s := range scenes() {
		for i, ticks := range s.ticks {
			if len(ticks) > 400 {
				continue
			}
			for most := -2; most < len(ticks)+3; most++ {
				got, want := fresh(t, 11), fresh(t, 11)
				for j := range i {
					check(t, s.what, got, want, s.rows[j], s.ticks[j], -1)
				}
				check(t, s.what, got, want, s.rows[i], ticks, most)
				alike(t, s.what, got, want)
			}
		}
	}
}

// TestFarBounds: the ends of int, and rows that are long.
func TestFarBounds(t *testing.T) {
	ps, ticks := row(say(1, 3), say(1, 0, 2, 0), come(1, 512), nothing(400)), join(bits(3, 0, 2, 0), hear1(512), quiet(400))
	for _, most := range []int{math.MinInt, -4528, -1, 0, 1, 4095, 4096, 4127, 4128, 4527, 4528, 4529, 1 << 32, math.MaxInt} {
		got, want := fresh(t), fresh(t)
		check(t, "a long row", got, want, ps, ticks, most)
		alike(t, "a long row", got, want)
	}
}

// TestCutByItself holds cut rows against numbers by hand: a byte is told behind its last clock, and not before.
func TestCutByItself(t *testing.T) {
	one, four := row(say(1, 159), come(1, 3)), row(say(1, 107), say(1, 0, 0, 0), nothing(8), come(4, 3))
	for _, x := range []struct {
		ps    []api.Phase
		most  int
		want  []int
		n     int
		whole bool
	}{
		{one, -1, []int{239, 64, 12}, 32, true},
		{one, 0, nil, 0, false},
		{one, 1, nil, 1, false},
		{one, 8, nil, 8, false},
		{one, 15, nil, 15, false},
		{one, 16, []int{239}, 16, false},
		{one, 23, []int{239}, 23, false},
		{one, 24, []int{239, 64}, 24, false},
		{one, 31, []int{239, 64}, 31, false},
		{one, 32, []int{239, 64, 12}, 32, true},
		{one, 33, []int{239, 64, 12}, 32, true},
		{four, 40, nil, 40, false},
		{four, 41, nil, 41, false},
		{four, 42, []int{5}, 42, false},
		{four, 43, []int{5}, 43, false},
		{four, 45, []int{5, 12}, 45, false},
		{four, 46, []int{5, 12, 19}, 46, true},
		{nil, 0, nil, 0, true},
		{nil, 5, nil, 0, true},
	} {
		c := fresh(t)
		got, n, whole, e := Drive(c, x.ps, x.most)
		if e != api.OK || n != x.n || whole != x.whole || !slices.Equal(got, x.want) {
			t.Errorf("P10.2: most %d: %v, %d clocks, %v, error %d; wanted %v, %d clocks, %v", x.most, got, n, whole, e, x.want, x.n, x.whole)
		}
		if selected := c.Select() == api.ErrChipForm; selected == x.whole {
			t.Errorf("P10.2: most %d: behind it selected %v", x.most, selected)
		}
	}
}

// TestBehindACut: a chip that was left selected is refused until it is deselected, or loses its power.
func TestBehindACut(t *testing.T) {
	ps := row(say(1, 159), come(1, 3))
	for _, free := range []func(*chip.Chip) api.Errno{(*chip.Chip).Deselect, func(c *chip.Chip) api.Errno { return c.Loss("") }} {
		c := fresh(t)
		Drive(c, ps, 20)
		refuseDrive(t, "left selected", c, ps, -1, api.ErrWireForm)
		refuseDrive(t, "left selected", c, nil, -1, api.ErrWireForm)
		if e := free(c); e != api.OK {
			t.Errorf("P6.3, P6.4: error %d", e)
		}
		if read, n, whole, e := Drive(c, ps, -1); !slices.Equal(read, []int{239, 64, 12}) || n != 32 || !whole || e != api.OK {
			t.Errorf("P10.2: %v, %d clocks, %v, error %d", read, n, whole, e)
		}
	}
}

// chance makes a phase by chance, with bytes that are commands now and then.
func chance(r *rand.Rand) api.Phase {
	codes := []int{1, 2, 3, 4, 5, 6, 32, 53, 90, 107, 117, 122, 159, 235}
	lanes := 1 + 3*r.Intn(2)
	switch r.Intn(5) {
	case 0:
		return nothing(1 + r.Intn(20))
	case 1, 2:
		return come(lanes, 1+r.Intn(5))
	case 3:
		return say(lanes, []int{0, r.Intn(16), r.Intn(256)}...)
	}
	data := some(1 + r.Intn(4))
	for i := range data {
		data[i] = r.Intn(256)
	}
	data[0] = codes[r.Intn(len(codes))]
	return say(lanes, data...)
}

// TestByChance drives rows by chance, some of them cut, on one chip and by hand on another.
func TestByChance(t *testing.T) {
	r := rand.New(rand.NewSource(10))
	cuts := 0
	for range 300 {
		got, want := fresh(t, 50, 3), fresh(t, 50, 3)
		for range 20 {
			var ps []api.Phase
			for range r.Intn(6) {
				ps = append(ps, chance(r))
			}
			if len(ps) > 0 && r.Intn(4) > 0 {
				ps[0] = say(1, []int{3, 5, 6, 32, 107, 159, 235}[r.Intn(7)])
			}
			ticks, most := byHand(ps), r.Intn(400)-200
			check(t, "by chance", got, want, ps, ticks, most)
			if most >= 0 && most < len(ticks) {
				cuts++
				if x, y := got.Deselect(), want.Deselect(); x != api.OK || y != api.OK {
					t.Fatalf("P10.2: Deselect behind a cut: error %d; by hand %d", x, y)
				}
			}
		}
		alike(t, "by chance", got, want)
	}
	if cuts < 300 {
		t.Errorf("only %d rows were cut", cuts)
	}
}

// TestRowStays: what is handed in stays as it was, its spare room too, also when the answer is written over (R4).
func TestRowStays(t *testing.T) {
	for _, most := range []int{-1, 0, 20, 70} {
		bytes := some(9)
		room := row(say(1, 3), api.Phase{Lanes: 1, Bytes: bytes[2:5]}, come(1, 4), nothing(7), say(4, 9))
		was := copyOf(room)
		c := fresh(t)
		read, _, _, e := Drive(c, room[:3], most)
		for i := range read[:cap(read)] {
			read[:cap(read)][i] = -9
		}
		if e != api.OK || !slices.EqualFunc(room, was, samePhase) || !slices.Equal(bytes, some(9)) {
			t.Errorf("R4: most %d: %v, was %v; %v; error %d", most, room, was, bytes, e)
		}
		refuseDrive(t, "once more", c, append(slices.Clone(room), api.Phase{}), most, api.ErrWireForm)
		if !slices.EqualFunc(room, was, samePhase) || !slices.Equal(bytes, some(9)) {
			t.Errorf("R4: most %d, refused: %v, was %v; %v", most, room, was, bytes)
		}
	}
}

// TestAnswersShareNothing: an answer that is written over leaves an earlier one and a later one as they are (R4).
func TestAnswersShareNothing(t *testing.T) {
	c := fresh(t)
	ps := row(say(1, 159), come(1, 5))
	want := []int{239, 64, 12, 239, 64}
	first, _, _, _ := Drive(c, ps, -1)
	second, _, _, _ := Drive(c, ps, -1)
	for i := range second[:cap(second)] {
		second[:cap(second)][i] = -9
	}
	third, _, _, _ := Drive(c, ps, -1)
	if !slices.Equal(first, want) || !slices.Equal(third, want) {
		t.Errorf("R4: %v, %v; wanted %v", first, third, want)
	}
	told(t, "R4", c, fresh(t))
}

// TestRowIsNotKept: what is written into a row behind a cut does not reach the chip (R4).
func TestRowIsNotKept(t *testing.T) {
	got, want := fresh(t), fresh(t)
	ps := row(say(1, 3), say(1, 0, 10, 1), come(1, 4))
	check(t, "cut", got, want, ps, join(bits(3, 0, 10, 1), hear1(4)), 12)
	ps[1].Bytes[2] = 99
	ps[2] = nothing(3)
	alike(t, "R4: behind a cut", got, want)
}

// TestSameAgain: the same answers on chips that are the same, with refused calls between (R5).
func TestSameAgain(t *testing.T) {
	ps := row(say(1, 235), say(4, 0, 3, 3), say(4, 0), nothing(4), come(4, 16))
	c := fresh(t)
	var last []int
	for i := range 5 {
		refuseDrive(t, "between", nil, ps, -1, api.ErrNil)
		refuseDrive(t, "between", c, row(say(1, 6), api.Phase{}), -1, api.ErrWireForm)
		read, n, whole, e := Drive(c, ps, 52)
		if i > 0 && !slices.Equal(read, last) || n != 52 || !whole || e != api.OK || len(read) != 16 {
			t.Errorf("R5: %v, %d clocks, %v, error %d; at first %v", read, n, whole, e, last)
		}
		last = read
	}
}

// TestChipsAtOnce: several goroutines drive one row on chips of their own at one time (R5).
func TestChipsAtOnce(t *testing.T) {
	ps := row(say(1, 107), say(1, 0, 0, 0), nothing(8), come(4, 30))
	want, _ := run(t, fresh(t), byHand(ps), -1)
	chips := make([]*chip.Chip, 8)
	for i := range chips {
		chips[i] = fresh(t)
	}
	var all sync.WaitGroup
	for _, c := range chips {
		all.Go(func() {
			for range 30 {
				if read, n, whole, e := Drive(c, ps, -1); !slices.Equal(read, want) || n != 100 || !whole || e != api.OK {
					t.Errorf("R5: %v, %d clocks, %v, error %d", read, n, whole, e)
				}
			}
		})
	}
	all.Wait()
}

// TestUnmadeChip: a chip that New did not make is driven like any other, and nothing panics (R1).
func TestUnmadeChip(t *testing.T) {
	if read, n, whole, e := Drive(&chip.Chip{}, row(say(1, 159), come(1, 3)), -1); !slices.Equal(read, []int{239, 64, 12}) || n != 32 || !whole || e != api.OK {
		t.Errorf("R1: %v, %d clocks, %v, error %d", read, n, whole, e)
	}
}
