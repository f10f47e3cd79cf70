package ctl

import (
	"math"
	"testing"

	"lichen/api"
	"lichen/chip"
)

// newCtl is a controller of a chip with patterned cells.
func newCtl(t *testing.T) *Ctl {
	t.Helper()
	return newRig(t).c
}

func TestNewNil(t *testing.T) {
	if c, e := New(nil); c != nil || e != api.ErrNil {
		t.Errorf("P11.1: New(nil): %v, error %d", c, e)
	}
}

// TestNew: registers 0, empty queues, no clocks, power, no bound, no read that goes on; and the chip is as it was.
func TestNew(t *testing.T) {
	r := newRig(t)
	r.same("P11.1", "new")
	for reg := range 4 {
		checkRead(t, r.c, reg, 0)
	}
	refuseRead(t, r.c, api.RegData, api.ErrFifoEmpty)
	for i := range api.MaxFifo {
		checkWrite(t, r.c, api.RegData, i)
	}
	refuseWrite(t, r.c, api.RegData, 1, api.ErrFifoFull)
	r.run(reads(3, 100, 512), reads(3, 0, 512), asks(159, 512), plain(6))
	r.alike()
}

// TestNewTouchesNothing: a chip in the midst of something stays in it.
func TestNewTouchesNothing(t *testing.T) {
	r := quadRig(t, 60)
	r.run(plain(6), plain32(9*256))
	if c, e := New(r.chip); c == nil || e != api.OK || c.Clocks() != 0 || c.Lost() {
		t.Errorf("P11.1: New of a busy chip: error %d", e)
	}
	r.alike()
	r.chip.Select()
	r.hand.Select()
	if c, e := New(r.chip); c == nil || e != api.OK {
		t.Errorf("P11.1: New of a selected chip: error %d", e)
	}
	r.alike()
}

// TestTwoControllers: each of one chip knows its own clocks, registers, queues and power.
func TestTwoControllers(t *testing.T) {
	r := newRig(t)
	other, _ := New(r.chip)
	checkWrite(t, r.c, api.RegCommand, 5)
	checkWrite(t, r.c, api.RegData, 9)
	r.run(asks(159, 3))
	checkRead(t, other, api.RegCommand, 0)
	if other.Clocks() != 0 {
		t.Errorf("P11.1: %d clocks of another controller", other.Clocks())
	}
	r.cut(0)
	if e := other.Cut(100); e != api.OK {
		t.Errorf("P11.1: Cut: error %d", e)
	}
	if got, e := other.Run(159, 0, nil, 1); len(got) != 1 || got[0] != 239 || e != api.OK || other.Clocks() != 16 {
		t.Errorf("P11.2: %v, error %d, %d clocks", got, e, other.Clocks())
	}
	r.run(asks(5, 1))
	if other.Lost() || !r.c.Lost() {
		t.Errorf("P11.1: lost %v, the other %v", r.c.Lost(), other.Lost())
	}
}

// TestCutWrong: below 0 it is refused, and the bound stays.
func TestCutWrong(t *testing.T) {
	for _, wrong := range []int{-1, -2, -400, -(1 << 32), math.MinInt} {
		r := quadRig(t)
		checkCutWrong(t, r.c, wrong)
		r.run(asks(5, 3))
		r.cut(40)
		checkCutWrong(t, r.c, wrong)
		r.run(asks(5, 4))
		checkCutWrong(t, r.c, wrong)
		r.run(asks(5, 4))
		if !r.lost {
			t.Errorf("P11.1: Cut(%d) changed the bound", wrong)
		}
		checkCutWrong(t, r.c, wrong)
		r.same("P11.1", wrong)
	}
}

func checkCutWrong(t *testing.T, c *Ctl, clocks int) {
	t.Helper()
	was, lost := c.Clocks(), c.Lost()
	if e := c.Cut(clocks); e != api.ErrCtlForm || c.Clocks() != was || c.Lost() != lost {
		t.Errorf("P11.1: Cut(%d): error %d, %d clocks, lost %v", clocks, e, c.Clocks(), c.Lost())
	}
}

// TestCut: so many clocks more there may be, from now on; the last Cut holds, be it less or more.
func TestCut(t *testing.T) {
	for _, x := range []struct {
		cuts []int
		runs int // how many statuses of 16 clocks each are whole
	}{
		{nil, 30},
		{[]int{0}, 0},
		{[]int{1}, 0},
		{[]int{15}, 0},
		{[]int{16}, 1},
		{[]int{17}, 1},
		{[]int{31}, 1},
		{[]int{32}, 2},
		{[]int{160}, 10},
		{[]int{0, 32}, 2},
		{[]int{32, 0}, 0},
		{[]int{32, 48}, 3},
		{[]int{48, 16, 32}, 2},
		{[]int{math.MaxInt}, 30},
		{[]int{1 << 32}, 30},
		{[]int{0, math.MaxInt}, 30},
		{[]int{math.MaxInt, 16}, 1},
	} {
		r := quadRig(t)
		r.run(asks(159, 5))
		for _, clocks := range x.cuts {
			r.cut(clocks)
		}
		runs := 0
		for ; runs < 30 && !r.lost; runs++ {
			r.run(asks(5, 1))
		}
		if r.lost {
			runs--
		}
		if runs != x.runs {
			t.Errorf("P11.1: Cut %v: %d commands were whole, wanted %d", x.cuts, runs, x.runs)
		}
	}
}

// TestCutBetween: the bound that is left is put anew, and not added to.
func TestCutBetween(t *testing.T) {
	r := quadRig(t)
	r.cut(50)
	r.run(asks(5, 1), asks(5, 2))
	r.cut(24)
	r.run(asks(5, 2))
	r.cut(1000)
	r.run(reads(3, 0, 100), plain(6))
	r.cut(7)
	r.run(plain(4))
	if !r.lost {
		t.Error("P11.1: 8 clocks, where 7 more there may be")
	}
}

// TestCutBehindLoss: Cut is taken behind a loss, too, but the power stays away.
func TestCutBehindLoss(t *testing.T) {
	r := quadRig(t)
	r.cut(20)
	r.run(asks(5, 2))
	for _, clocks := range []int{0, 1, 1000, math.MaxInt} {
		r.cut(clocks)
		r.refuse(asks(5, 1), api.ErrCtlState)
		r.refuse(plain(7), api.ErrCtlState)
	}
	if e := r.c.Cut(-1); e != api.ErrCtlForm {
		t.Errorf("P11.1: Cut(-1) behind a loss: error %d", e)
	}
}

// TestNil: each method of a nil controller answers ErrNil, or zero values, whatever else is wrong.
func TestNil(t *testing.T) {
	var c *Ctl
	for _, x := range []int{-1, 0, 1, 4, 5, 6, 159, math.MinInt, math.MaxInt} {
		if got, e := c.Run(x, x, []int{x}, x); got != nil || e != api.ErrNil {
			t.Errorf("R3: Run: %v, error %d", got, e)
		}
		if got, e := c.Read(x); got != 0 || e != api.ErrNil {
			t.Errorf("R3: Read(%d): %d, error %d", x, got, e)
		}
		if e, f := c.Write(x, x), c.Cut(x); e != api.ErrNil || f != api.ErrNil {
			t.Errorf("R3: Write, Cut of %d: errors %d, %d", x, e, f)
		}
	}
	if e := c.Go(); e != api.ErrNil || c.Lost() || c.Clocks() != 0 {
		t.Errorf("R3: Go: error %d; lost %v, %d clocks", e, c.Lost(), c.Clocks())
	}
}

// TestUnmade: a controller that New did not make has no chip, and nothing panics (R1).
func TestUnmade(t *testing.T) {
	c := &Ctl{}
	for range 2 {
		if got, e := c.Run(159, 0, nil, 3); len(got) != 0 || e != api.ErrNil {
			t.Errorf("R1: Run: %v, error %d", got, e)
		}
		if got, e := c.Run(7, 0, nil, 3); len(got) != 0 || e != api.ErrCtlForm {
			t.Errorf("R1: Run of no command: %v, error %d", got, e)
		}
		checkWrite(t, c, api.RegCommand, 5)
		checkWrite(t, c, api.RegData, 5)
		checkRead(t, c, api.RegState, 0)
		if e := c.Go(); e == api.OK || c.Lost() || c.Clocks() != 0 {
			t.Errorf("R1: Go: error %d; lost %v, %d clocks", e, c.Lost(), c.Clocks())
		}
		if e := c.Cut(0); e != api.OK {
			t.Errorf("R1: Cut: error %d", e)
		}
	}
}

// TestUnmadeChip: a chip that New did not make is one like any other.
func TestUnmadeChip(t *testing.T) {
	c, e := New(&chip.Chip{})
	if c == nil || e != api.OK {
		t.Fatalf("P11.1: New: error %d", e)
	}
	if got, e := c.Run(159, 0, nil, 3); len(got) != 3 || got[0] != 239 || e != api.OK {
		t.Errorf("R1: Run: %v, error %d", got, e)
	}
}
