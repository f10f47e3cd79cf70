package ctl

import (
	"math"
	"testing"

	"lichen/api"
)

// cutScenes are orders that were whole, and the one that is cut.
func cutScenes() []scene {
	return []scene{
		{"a status", []order{asks(5, 2)}},
		{"the identity", []order{asks(159, 3)}},
		{"an enable", []order{plain(6)}},
		{"a read", []order{reads(3, 300, 3)}},
		{"what a chip is like", []order{reads(90, 3, 2)}},
		{"on four lanes", []order{reads(107, 300, 5)}},
		{"mode bits", []order{quadIo(300, 0, 5)}},
		{"Goon", []order{quadIo(300, 160, 5)}},
		{"a status put", []order{plain(6), writes(1, 0, 4, 0)}},
		{"a program", []order{plain(6), writes(2, 2600, 1, 2, 3)}},
		{"an erase", []order{plain(6), plain32(2600)}},
		{"while an erase is under way", []order{plain(6), plain32(2600), asks(5, 6)}},
		{"a suspend", []order{plain(6), plain32(2600), plain(117)}},
		{"a resume", []order{plain(6), plain32(2600), plain(117), plain(122)}},
		{"behind a read that goes on: itself", []order{quadIo(300, 160, 5), quadIo(301, 160, 5)}},
		{"behind a read that goes on: its end", []order{quadIo(300, 160, 5), quadIo(301, 0, 5)}},
		{"behind a read that goes on: a status", []order{quadIo(300, 160, 5), asks(5, 2)}},
		{"behind a read that goes on: an enable", []order{quadIo(300, 160, 5), plain(6)}},
		{"behind a read that goes on: a read", []order{quadIo(300, 160, 5), reads(3, 300, 2)}},
		{"behind a read that goes on: a program", []order{plain(6), quadIo(300, 160, 5), writes(2, 2600, 1, 2, 3)}},
		{"behind a read that goes on: an erase", []order{plain(6), quadIo(300, 160, 5), plain32(2600)}},
	}
}

// cutRig has all but the last order of a scene behind it.
func cutRig(t *testing.T, s scene) *rig {
	t.Helper()
	r := quadRig(t, 13)
	r.run(s.orders[:len(s.orders)-1]...)
	return r
}

// TestEachBound cuts the last order of each scene at each bound, at just its clocks, and beyond: what is driven ahead of it counts as well.
func TestEachBound(t *testing.T) {
	for _, s := range cutScenes() {
		last := s.orders[len(s.orders)-1]
		all := clocks(t, last.rows(cutRig(t, s).goesOn))
		for most := range all + 3 {
			r := cutRig(t, s)
			was := r.c.Clocks()
			r.cut(most)
			r.run(last)
			if r.lost != (most < all) || r.c.Clocks()-was != min(most, all) {
				t.Fatalf("P11.2: %s, bound %d of %d: lost %v, %d clocks", s.what, most, all, r.lost, r.c.Clocks()-was)
			}
			if !r.lost {
				r.cut(most - all)
				r.run(last)
				checkGone(t, r)
				continue
			}
			checkGone(t, r)
			r.alike()
		}
	}
}

// checkGone wants a controller whose power went to answer so, whatever it is asked, and to touch nothing.
func checkGone(t *testing.T, r *rig) {
	t.Helper()
	if !r.c.Lost() {
		t.Fatal("P11.1: the power did not go")
	}
	for _, o := range []order{asks(5, 1), plain(6), quadIo(5, 160, 1), plain(7), reads(3, -1, -1), reads(235, 0, 1)} {
		r.refuse(o, api.ErrCtlState)
	}
	for reg := -1; reg < 7; reg++ {
		refuseRead(t, r.c, reg, api.ErrCtlState)
		for _, x := range []int{-1, 0, 1, 4096, math.MinInt, math.MaxInt} {
			refuseWrite(t, r.c, reg, x, api.ErrCtlState)
		}
	}
	if e := r.c.Go(); e != api.ErrCtlState {
		t.Errorf("P11.3: Go: error %d", e)
	}
	r.same("P11.2: without power", "")
}

// TestCutByItself: the bound falls by the clocks that there were, over several commands.
func TestCutByItself(t *testing.T) {
	for _, x := range []struct {
		most   int
		orders []order
		clocks int
		lost   bool
	}{
		{0, []order{plain(6)}, 0, true},
		{7, []order{plain(6)}, 7, true},
		{8, []order{plain(6)}, 8, false},
		{9, []order{plain(6)}, 8, false},
		{8, []order{plain(6), plain(6)}, 8, true},
		{15, []order{plain(6), plain(6)}, 15, true},
		{16, []order{plain(6), plain(6)}, 16, false},
		{31, []order{plain(6), asks(5, 2)}, 31, true},
		{32, []order{plain(6), asks(5, 2)}, 32, false},
		{26, []order{quadIo(9, 160, 3), plain(6)}, 26, true},
		{33, []order{quadIo(9, 160, 3), plain(6)}, 33, true},
		{34, []order{quadIo(9, 160, 3), plain(6)}, 34, true},
		{35, []order{quadIo(9, 160, 3), plain(6)}, 35, true},
		{41, []order{quadIo(9, 160, 3), plain(6)}, 41, true},
		{42, []order{quadIo(9, 160, 3), plain(6)}, 42, false},
		{43, []order{quadIo(9, 160, 3), quadIo(9, 0, 3)}, 43, true},
		{44, []order{quadIo(9, 160, 3), quadIo(9, 0, 3)}, 44, false},
	} {
		r := quadRig(t)
		was := r.c.Clocks()
		r.cut(x.most)
		var e api.Errno
		for _, o := range x.orders {
			_, e = r.c.Run(o.b, o.at, o.data, o.read)
		}
		if got := r.c.Clocks() - was; got != x.clocks || r.c.Lost() != x.lost || x.lost != (e == api.ErrCtlState) || !x.lost && e != api.OK {
			t.Errorf("P11.2: bound %d, %v: %d clocks, lost %v, error %d; wanted %d, %v", x.most, x.orders, got, r.c.Lost(), e, x.clocks, x.lost)
		}
	}
}

// TestChipBehindALoss: the controller does not take the chip's power; the chip stays selected until somebody does, and another controller then has it.
func TestChipBehindALoss(t *testing.T) {
	r := quadRig(t, 100)
	r.run(plain(6), plain32(2600))
	r.cut(20)
	r.run(asks(5, 4))
	if e := r.chip.Select(); e != api.ErrChipForm {
		t.Errorf("P11.2: behind a cut the chip is not selected: error %d", e)
	}
	other, _ := New(r.chip)
	if got, e := other.Run(5, 0, nil, 1); len(got) != 0 || e != api.ErrWireForm || other.Clocks() != 0 {
		t.Errorf("P11.2: %v, error %d", got, e)
	}
	r.chip.Loss("\x0f")
	r.hand.Loss("\x0f")
	r.same("P6.4", "behind the loss")
	if got, e := other.Run(159, 0, nil, 1); len(got) != 1 || e != api.OK || other.Clocks() != 16 {
		t.Errorf("P11.2: %v, error %d", got, e)
	}
	r.refuse(asks(5, 1), api.ErrCtlState)
}

// TestLossOfTheChip: that a chip lost its power the controller does not know; it goes on as before.
func TestLossOfTheChip(t *testing.T) {
	r := quadRig(t)
	r.run(quadIo(300, 160, 5))
	r.chip.Loss("")
	r.hand.Loss("")
	r.run(quadIo(301, 160, 5), asks(5, 1), quadIo(301, 160, 5))
	r.alike()
}
