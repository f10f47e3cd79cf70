package ctl

import (
	"math"
	"slices"
	"testing"

	"lichen/api"
)

func checkWrite(t *testing.T, c *Ctl, reg, x int) {
	t.Helper()
	if e := c.Write(reg, x); e != api.OK {
		t.Errorf("P11.3: Write(%d, %d): error %d", reg, x, e)
	}
}

func refuseWrite(t *testing.T, c *Ctl, reg, x int, want api.Errno) {
	t.Helper()
	if e := c.Write(reg, x); e != want {
		t.Errorf("P11.3: Write(%d, %d): error %d, wanted error %d", reg, x, e, want)
	}
}

func checkRead(t *testing.T, c *Ctl, reg, want int) {
	t.Helper()
	if x, e := c.Read(reg); x != want || e != api.OK {
		t.Errorf("P11.3: Read(%d): %d, error %d; wanted %d", reg, x, e, want)
	}
}

func refuseRead(t *testing.T, c *Ctl, reg int, want api.Errno) {
	t.Helper()
	if x, e := c.Read(reg); x != 0 || e != want {
		t.Errorf("P11.3: Read(%d): %d, error %d; wanted error %d", reg, x, e, want)
	}
}

// set writes the registers for an order, and its data.
func set(t *testing.T, c *Ctl, o order) {
	t.Helper()
	checkWrite(t, c, api.RegCommand, o.b)
	checkWrite(t, c, api.RegAddress, o.at)
	checkWrite(t, c, api.RegLength, o.read)
	for _, x := range o.data {
		checkWrite(t, c, api.RegData, x)
	}
}

// checkGo runs by the registers what layer 10 drives on the second chip; take reads all that came.
func checkGo(t *testing.T, r *rig, o order) {
	t.Helper()
	set(t, r.c, o)
	e := r.c.Go()
	want := r.byHand(o)
	if r.lost != (e == api.ErrCtlState) || !r.lost && e != api.OK {
		t.Fatalf("P11.3: Go of %v: error %d, power gone %v", o, e, r.lost)
	}
	r.same("P11.3: Go", o)
	if !r.lost {
		take(t, r.c, want)
	}
}

func refuseGo(t *testing.T, r *rig, want api.Errno) {
	t.Helper()
	if e := r.c.Go(); e != want {
		t.Errorf("P11.3: Go: error %d, wanted error %d", e, want)
	}
	r.same("P11.3: Go refused", want)
}

// take wants just these bytes to wait, in their row.
func take(t *testing.T, c *Ctl, want []int) {
	t.Helper()
	for i, x := range want {
		checkRead(t, c, api.RegState, len(want)-i)
		checkRead(t, c, api.RegData, x)
	}
	checkRead(t, c, api.RegState, 0)
	refuseRead(t, c, api.RegData, api.ErrFifoEmpty)
}

// goes are the bytes that wait to go.
func goes(r *rig) []int { return all(r.c.goes) }

func TestRegisters(t *testing.T) {
	for _, x := range []struct{ reg, last int }{{0, 4095}, {1, 4095}, {2, 16}} {
		c := newCtl(t)
		others := func(want int) {
			for reg := range 4 {
				if reg != x.reg {
					checkRead(t, c, reg, 0)
				}
			}
			checkRead(t, c, x.reg, want)
			refuseRead(t, c, api.RegData, api.ErrFifoEmpty)
		}
		for _, good := range []int{0, 1, x.last - 1, x.last, 7, 0, x.last} {
			checkWrite(t, c, x.reg, good)
			others(good)
			others(good)
			for _, wrong := range []int{-1, x.last + 1, x.last + 2, -x.last, 8192, 1 << 32, 1<<32 + 1, math.MinInt, math.MaxInt} {
				refuseWrite(t, c, x.reg, wrong, api.ErrCtlForm)
				others(good)
			}
		}
		for i := range x.last + 1 {
			checkWrite(t, c, x.reg, i)
			checkRead(t, c, x.reg, i)
		}
	}
}

// TestNoSuchRegister: RegState may be read alone, and there is none beyond RegData.
func TestNoSuchRegister(t *testing.T) {
	c := newCtl(t)
	set(t, c, order{159, 0, nil, 3})
	if e := c.Go(); e != api.OK {
		t.Fatalf("P11.3: Go: error %d", e)
	}
	for _, x := range []int{-1, 0, 1, 3, 255, 256, 4096, math.MinInt, math.MaxInt} {
		for _, reg := range []int{-1, 3, 5, 6, 100, -4, 1 << 32, 1<<32 + 1, 1<<32 + 4, math.MinInt, math.MaxInt} {
			refuseWrite(t, c, reg, x, api.ErrCtlForm)
			if reg != 3 {
				refuseRead(t, c, reg, api.ErrCtlForm)
			}
		}
	}
	checkRead(t, c, api.RegCommand, 159)
	checkRead(t, c, api.RegAddress, 0)
	checkRead(t, c, api.RegLength, 3)
	take(t, c, []int{239, 64, 12})
}

// TestDataIn: bytes wait to go in their row, up to MaxFifo of them; what is no byte is refused ahead of a full queue.
func TestDataIn(t *testing.T) {
	r := newRig(t)
	var want []int
	for i := range 16 {
		x := []int{0, 255, 1, 254}[i%4]
		refuseWrite(t, r.c, api.RegData, -1, api.ErrCtlForm)
		refuseWrite(t, r.c, api.RegData, 256, api.ErrCtlForm)
		checkWrite(t, r.c, api.RegData, x)
		want = append(want, x)
		refuseRead(t, r.c, api.RegData, api.ErrFifoEmpty)
		checkRead(t, r.c, api.RegState, 0)
	}
	for _, x := range []int{0, 1, 255} {
		refuseWrite(t, r.c, api.RegData, x, api.ErrFifoFull)
	}
	for _, x := range []int{-1, 256, 1 << 32, math.MinInt, math.MaxInt} {
		refuseWrite(t, r.c, api.RegData, x, api.ErrCtlForm)
	}
	r.run(plain(6))
	checkWrite(t, r.c, api.RegCommand, 2)
	checkWrite(t, r.c, api.RegAddress, 2600)
	if e := r.c.Go(); e != api.OK {
		t.Errorf("P11.3: Go: error %d", e)
	}
	r.byHand(writes(2, 2600, want...))
	r.same("P11.3: Go", want)
	r.alike()
}

// TestGo runs orders by the registers, each with as much as goes in or comes out.
func TestGo(t *testing.T) {
	enable, quad := plain(6), writes(1, 0, 0, 2)
	for _, orders := range [][]order{
		{asks(159, 3), asks(159, 16), asks(159, 0), asks(5, 1), enable, asks(5, 2), plain(4), asks(5, 1)},
		{reads(3, 35, 5), reads(3, 4095, 16), reads(90, 0, 16), reads(3, 0, 0)},
		{enable, quad, reads(107, 9, 16), quadIo(9, 0, 16), quadIo(9, 160, 15), quadIo(10, 160, 1), asks(5, 1), quadIo(10, 160, 1), enable, asks(5, 1)},
		{enable, writes(2, 2599, some(16)...), asks(5, 5), reads(3, 2592, 16), enable, writes(2, 2599), writes(2, 2599, 0), asks(5, 1), reads(3, 2599, 1)},
		{enable, writes(1, 0, 4, 2), asks(5, 1), enable, writes(1, 0, 4), asks(5, 1), writes(1, 0, 0, 0, 0), asks(5, 1)},
		{enable, plain32(3000), asks(5, 1), plain(117), asks(53, 1), reads(3, 3000, 4), plain(122), asks(5, 16)},
	} {
		r := newRig(t, 20)
		for _, o := range orders {
			checkGo(t, r, o)
			if left := goes(r); len(left) != 0 {
				t.Errorf("P11.3: behind Go of %v there waits %v", o, left)
			}
		}
		r.alike()
	}
}

// TestGoKeepsRegisters: Go leaves the three registers as they are, so that it may be said again.
func TestGoKeepsRegisters(t *testing.T) {
	r := newRig(t)
	set(t, r.c, reads(3, 35, 5))
	for range 3 {
		if e := r.c.Go(); e != api.OK {
			t.Errorf("P11.3: Go: error %d", e)
		}
		checkRead(t, r.c, api.RegCommand, 3)
		checkRead(t, r.c, api.RegAddress, 35)
		checkRead(t, r.c, api.RegLength, 5)
	}
	checkRead(t, r.c, api.RegState, 15)
	for i := range 15 {
		checkRead(t, r.c, api.RegData, []int{250, 1, 8, 15, 22}[i%5])
	}
	take(t, r.c, nil)
}

// TestGoOfNew: the registers of a new controller tell no command.
func TestGoOfNew(t *testing.T) {
	r := newRig(t)
	refuseGo(t, r, api.ErrCtlForm)
	checkWrite(t, r.c, api.RegLength, 3)
	refuseGo(t, r, api.ErrCtlForm)
	take(t, r.c, nil)
}

// TestGoRefused: beside layer 9's refusal, and layer 10's, what waited to go is gone, and nothing came.
func TestGoRefused(t *testing.T) {
	for _, o := range []order{writes(7, 0, 1, 2), writes(6, 0, 1), writes(235, 0, 1, 2), writes(5, 0, 1), {2, 0, []int{1}, 1}, {159, 1, []int{}, 1}, {4095, 0, []int{1}, 16}, {235, 5, nil, 3}, {6, 0, nil, 1}} {
		r := newRig(t)
		set(t, r.c, asks(159, 2))
		r.c.Go()
		r.byHand(asks(159, 2))
		set(t, r.c, o)
		if o.read < 15 {
			refuseGo(t, r, api.ErrCtlForm)
			checkRead(t, r.c, api.RegState, 2)
		} else {
			refuseGo(t, r, api.ErrFifoFull)
		}
		if left := goes(r); o.read < 15 && len(left) != 0 || o.read >= 15 && !slices.Equal(left, o.data) {
			t.Errorf("P11.3: behind a refused Go of %v there waits %v", o, left)
		}
		take(t, r.c, []int{239, 64})
		r.run(plain(6))
	}
}

func TestGoSelected(t *testing.T) {
	r := newRig(t)
	set(t, r.c, writes(2, 2600, 1, 2, 3))
	r.chip.Select()
	r.hand.Select()
	refuseGo(t, r, api.ErrWireForm)
	if left := goes(r); len(left) != 0 {
		t.Errorf("P11.3: behind layer 10's error there waits %v", left)
	}
	r.chip.Deselect()
	r.hand.Deselect()
	checkGo(t, r, plain(6))
	checkGo(t, r, writes(2, 2600, 0))
	checkGo(t, r, asks(5, 3))
	checkGo(t, r, reads(3, 2599, 5))
}

// TestNoRoom: as much as the second queue has room for may be asked, and no more, whatever else is wrong; what waits to go waits on.
func TestNoRoom(t *testing.T) {
	for had := range 17 {
		for read := range 17 {
			r := newRig(t)
			checkWrite(t, r.c, api.RegCommand, 159)
			checkWrite(t, r.c, api.RegLength, had)
			if e := r.c.Go(); e != api.OK {
				t.Fatalf("P11.3: Go: error %d", e)
			}
			r.byHand(asks(159, had))
			checkWrite(t, r.c, api.RegLength, read)
			if had+read <= 16 {
				if e := r.c.Go(); e != api.OK {
					t.Fatalf("P11.3: Go of %d more than %d: error %d", read, had, e)
				}
				r.byHand(asks(159, read))
				r.same("P11.3: Go", read)
				checkRead(t, r.c, api.RegState, had+read)
				continue
			}
			checkNoRoom(t, r, had)
		}
	}
}

func checkNoRoom(t *testing.T, r *rig, had int) {
	t.Helper()
	refuseGo(t, r, api.ErrFifoFull)
	checkWrite(t, r.c, api.RegData, 77)
	checkWrite(t, r.c, api.RegData, 78)
	refuseGo(t, r, api.ErrFifoFull)
	for _, b := range []int{7, 6, 2, 235} {
		checkWrite(t, r.c, api.RegCommand, b)
		refuseGo(t, r, api.ErrFifoFull)
	}
	r.chip.Select()
	r.hand.Select()
	refuseGo(t, r, api.ErrFifoFull)
	r.cut(0)
	refuseGo(t, r, api.ErrFifoFull)
	if left := goes(r); !slices.Equal(left, []int{77, 78}) {
		t.Errorf("P11.3: where there is no room there waits %v", left)
	}
	want := slices.Repeat([]int{239, 64, 12}, 6)[:had]
	take(t, r.c, want)
}

// TestGoWithoutPower: ErrCtlState comes ahead of a full queue.
func TestGoWithoutPower(t *testing.T) {
	r := newRig(t)
	set(t, r.c, asks(159, 16))
	r.c.Go()
	r.byHand(asks(159, 16))
	checkRead(t, r.c, api.RegState, 16)
	r.cut(3)
	r.run(asks(5, 1))
	checkGone(t, r)
}

// TestGoCut cuts a Go at each bound: what waits to go waits on then.
func TestGoCut(t *testing.T) {
	o := writes(2, 2600, some(4)...)
	for _, goesOn := range []bool{false, true} {
		r := quadRig(t)
		if goesOn {
			r.run(quadIo(5, 160, 1))
		}
		all := clocks(t, o.rows(goesOn))
		for most := range all + 2 {
			r := quadRig(t)
			r.run(plain(6))
			if goesOn {
				r.run(quadIo(5, 160, 1))
			}
			r.cut(most)
			checkGo(t, r, o)
			if r.lost != (most < all) {
				t.Fatalf("P11.3: Go, bound %d of %d: lost %v", most, all, r.lost)
			}
			if left := goes(r); r.lost && !slices.Equal(left, o.data) || !r.lost && len(left) != 0 {
				t.Fatalf("P11.3: Go, bound %d of %d: there waits %v", most, all, left)
			}
			if r.lost {
				checkGone(t, r)
			}
			r.alike()
		}
	}
}

// TestRunLeavesQueues: Run alone touches neither registers nor queues.
func TestRunLeavesQueues(t *testing.T) {
	r := quadRig(t)
	set(t, r.c, asks(159, 2))
	r.c.Go()
	r.byHand(asks(159, 2))
	set(t, r.c, writes(2, 2600, 1, 2, 3))
	r.run(asks(159, 16), plain(6), reads(107, 0, 512), quadIo(5, 160, 5))
	r.refuse(plain(7), api.ErrCtlForm)
	checkRead(t, r.c, api.RegCommand, 2)
	checkRead(t, r.c, api.RegAddress, 2600)
	checkRead(t, r.c, api.RegLength, 0)
	if left := goes(r); !slices.Equal(left, []int{1, 2, 3}) {
		t.Errorf("P11.3: behind Run there waits %v", left)
	}
	take(t, r.c, []int{239, 64})
}

// TestQueuesAround: the queues are gone through many times over.
func TestQueuesAround(t *testing.T) {
	r := newRig(t)
	for i := range 40 {
		checkGo(t, r, plain(6))
		checkGo(t, r, writes(2, i*50+2048, some(i%17)...))
		checkGo(t, r, asks(5, i%17))
		checkGo(t, r, reads(3, i*50+2048, (i+7)%17))
	}
}
