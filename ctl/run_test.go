package ctl

import (
	"math"
	"math/rand"
	"slices"
	"sync"
	"testing"

	"lichen/api"
)

// plain32 is an erase.
func plain32(at int) order { return order{b: 32, at: at} }

// scene is orders that are run one behind another.
type scene struct {
	what   string
	orders []order
}

// scenes have each command, in many a state of the chip.
func scenes() []scene {
	enable, quad := plain(6), writes(1, 0, 0, 2)
	return []scene{
		{"the identity", []order{asks(159, 3), asks(159, 0), asks(159, 7)}},
		{"the status", []order{asks(5, 1), enable, asks(5, 2), asks(53, 2), plain(4), asks(5, 3), asks(53, 0), asks(5, 0)}},
		{"a read on one lane", []order{reads(3, 10, 20), reads(3, 4095, 3), reads(3, 0, 0), reads(3, 511, 1), reads(3, 512, 512)}},
		{"what a chip is like", []order{reads(90, 0, 32), reads(90, 3, 40), reads(90, 4095, 2), reads(90, 9, 0)}},
		{"four lanes, though the chip does not take them", []order{reads(107, 7, 5), quadIo(7, 0, 5), asks(5, 1), quadIo(7, 160, 5), asks(5, 1), quadIo(9, 160, 2), quadIo(9, 160, 3), quadIo(9, 0, 3), asks(5, 1)}},
		{"four lanes", []order{enable, quad, reads(107, 7, 5), reads(107, 4090, 12), reads(107, 1, 0), quadIo(7, 0, 5), quadIo(4095, 255, 512), quadIo(0, 161, 0), quadIo(0, 32, 1)}},
		{"a read goes on", []order{enable, quad, quadIo(771, 160, 16), quadIo(16, 160, 9), quadIo(4095, 160, 0), quadIo(1, 0, 4), quadIo(2, 160, 4), quadIo(3, 159, 4), quadIo(2, 0, 4)}},
		{"a read goes on, then another command", []order{enable, quad, quadIo(771, 160, 16), asks(5, 1), quadIo(771, 160, 0), plain(6), asks(5, 1), quadIo(771, 160, 1), reads(3, 12, 4), quadIo(5, 160, 1), reads(107, 12, 4), quadIo(5, 160, 1), reads(90, 12, 4), quadIo(5, 160, 1), asks(159, 4), quadIo(5, 160, 1), asks(53, 1), asks(53, 1)}},
		{"a read goes on, then a program", []order{enable, quad, plain(6), quadIo(771, 160, 16), writes(2, 2570, some(30)...), asks(5, 4), quadIo(2565, 160, 20), plain(6), quadIo(1, 160, 1), plain32(2560), asks(5, 3), reads(3, 2560, 40), asks(5, 10)}},
		{"a page", []order{enable, writes(2, 2560, some(32)...), asks(5, 3), reads(3, 2560, 33), reads(3, 2560, 33)}},
		{"around a page", []order{enable, writes(2, 3347, some(45)...), asks(53, 9), enable, writes(2, 4095, 1, 2, 3), asks(5, 8), reads(3, 4090, 20)}},
		{"as many data as may be", []order{enable, writes(2, 3347, some(512)...), asks(5, 9)}},
		{"a program without data", []order{enable, writes(2, 100), asks(5, 1)}},
		{"a program that is not enabled", []order{writes(2, 3347, 0, 0), asks(5, 1), reads(3, 3347, 2)}},
		{"an erase", []order{enable, plain32(2823), asks(5, 6), reads(3, 2816, 30)}},
		{"an erase suspended", []order{enable, plain32(2823), plain(117), asks(53, 1), reads(3, 2816, 5), writes(2, 2816, 1), enable, plain(122), asks(53, 2), asks(5, 60), reads(3, 2816, 5)}},
		{"protected", []order{enable, writes(1, 0, 4, 0), enable, plain32(256), asks(5, 1), enable, writes(2, 2047, 0), asks(5, 1), enable, writes(2, 2048, 0), asks(5, 9), reads(3, 2047, 2)}},
		{"a status of one byte, and of three", []order{enable, writes(1, 0, 4), asks(5, 1), writes(1, 0, 4, 2, 0), asks(5, 1), writes(1, 0), asks(5, 1), writes(1, 0, 4, 2), asks(5, 1), asks(53, 1)}},
		{"not quad any more", []order{enable, quad, quadIo(5, 160, 3), plain(6), writes(1, 0, 0, 0), quadIo(5, 160, 3), quadIo(5, 160, 3), asks(53, 1)}},
	}
}

// TestScenes runs each scene on a chip, and by hand on another, with durations from short to long.
func TestScenes(t *testing.T) {
	for _, s := range scenes() {
		for _, busy := range [][]int{nil, {1}, {30, 5}, {400}} {
			r := newRig(t, busy...)
			r.run(s.orders...)
			r.alike()
		}
	}
}

// TestByItself holds what was read and the clocks against numbers by hand.
func TestByItself(t *testing.T) {
	for _, x := range []struct {
		o      order
		want   []int
		clocks int
	}{
		{asks(159, 7), []int{239, 64, 12, 239, 64, 12, 239}, 64},
		{asks(5, 2), []int{0, 0}, 24},
		{asks(53, 1), []int{2}, 16},
		{plain(6), nil, 8},
		{plain(4), nil, 8},
		{plain(117), nil, 8},
		{plain(122), nil, 8},
		{plain32(4095), nil, 32},
		{writes(1, 0, 4, 2), nil, 24},
		{writes(2, 5, some(33)...), nil, 296},
		{reads(3, 0, 4), []int{5, 12, 19, 26}, 64},
		{reads(3, 258, 2), []int{30, 37}, 48},
		{reads(90, 0, 9), []int{83, 70, 68, 80, 6, 1, 0, 255, 0}, 112},
		{reads(107, 1, 3), []int{12, 19, 26}, 46},
		{quadIo(2, 160, 2), []int{19, 26}, 24},
		{quadIo(2, 0, 2), []int{19, 26}, 24},
		{quadIo(4095, 0, 2), []int{163, 5}, 24},
	} {
		r := quadRig(t)
		was := r.c.Clocks()
		got, e := r.c.Run(x.o.b, x.o.at, x.o.data, x.o.read)
		if e != api.OK || !slices.Equal(got, x.want) || r.c.Clocks()-was != x.clocks || r.c.Lost() {
			t.Errorf("P11.2: %v: %v, error %d, %d clocks; wanted %v, %d clocks", x.o, got, e, r.c.Clocks()-was, x.want, x.clocks)
		}
	}
}

// step is an order with what is read and how many clocks there are.
type step struct {
	o      order
	want   []int
	clocks int
}

// TestGoesOnByItself: a read that goes on spares the byte; what is no OpQuadIo has 8 clocks ahead of it.
func TestGoesOnByItself(t *testing.T) {
	goOn := step{quadIo(2, 160, 2), []int{19, 26}, 24}
	for _, steps := range [][]step{
		{goOn, {quadIo(256, 160, 1), []int{16}, 14}, {quadIo(257, 0, 1), []int{23}, 14}, {quadIo(256, 0, 1), []int{16}, 22}},
		{goOn, {asks(159, 3), []int{239, 64, 12}, 40}, {asks(159, 3), []int{239, 64, 12}, 32}},
		{goOn, {plain(6), nil, 16}, {asks(5, 1), []int{2}, 16}},
		{goOn, {reads(3, 0, 1), []int{5}, 48}, goOn, {reads(107, 1, 3), []int{12, 19, 26}, 54}, goOn},
		{goOn, {quadIo(0, 160, 0), nil, 12}, {plain(6), nil, 16}, {plain(4), nil, 8}},
		{{quadIo(2, 0, 2), []int{19, 26}, 24}, {asks(159, 1), []int{239}, 16}},
		{{quadIo(2, 161, 2), []int{19, 26}, 24}, {quadIo(2, 255, 2), []int{19, 26}, 24}, {quadIo(2, 32, 2), []int{19, 26}, 24}},
		{{writes(2, 0, 160), nil, 40}, {asks(159, 1), []int{239}, 16}},
	} {
		c := quadRig(t).c
		for i, x := range steps {
			was := c.Clocks()
			got, e := c.Run(x.o.b, x.o.at, x.o.data, x.o.read)
			if e != api.OK || !slices.Equal(got, x.want) || c.Clocks()-was != x.clocks {
				t.Errorf("P11.2: step %d, %v: %v, error %d, %d clocks; wanted %v, %d clocks", i, x.o, got, e, c.Clocks()-was, x.want, x.clocks)
			}
		}
	}
}

// TestModes: of all mode bits a read goes on behind Goon alone.
func TestModes(t *testing.T) {
	for mode := range 256 {
		r := quadRig(t)
		was := r.c.Clocks()
		r.run(quadIo(100, mode, 3), quadIo(200, mode, 3), asks(5, 1))
		want := 26 + 26 + 16
		if mode == 160 {
			want = 26 + 18 + 8 + 16
		}
		if got := r.c.Clocks() - was; got != want {
			t.Errorf("P11.2: mode bits %d: %d clocks, wanted %d", mode, got, want)
		}
	}
}

// wrongOrders are what layer 9 refuses: bytes, places, data and reads.
func wrongOrders() []order {
	far := []int{-1, -2, -(1 << 32), math.MinInt, math.MaxInt, 1 << 32}
	var all []order
	for _, b := range append(far, 0, 7, 8, 31, 33, 54, 108, 158, 160, 234, 236, 255, 256, 261, 1<<32+5) {
		all = append(all, plain(b), order{b, -1, []int{-1}, -1})
	}
	for _, at := range append(far, 4096, 4097, 1<<24) {
		all = append(all, reads(3, at, 1), reads(107, at, 1), reads(90, at, 1), plain32(at), writes(2, at, 1), quadIo(at, 0, 1))
	}
	for _, at := range append(far, 1, 4095) {
		all = append(all, plain(6), asks(5, 1), asks(53, 1), asks(159, 1), plain(4), plain(117), plain(122), writes(1, 0, 0, 0))
		for i := len(all) - 8; i < len(all); i++ {
			all[i].at = at
		}
	}
	for _, x := range append(far, 256, 1<<32+5) {
		all = append(all, writes(2, 5, x), writes(2, 5, 1, x, 2), writes(1, 0, 0, x), quadIo(5, x, 1))
	}
	all = append(all, writes(2, 5, some(513)...), writes(1, 0, some(513)...), writes(2, 0, some(4096)...))
	for _, read := range append(far, 513, 4096) {
		all = append(all, reads(3, 5, read), reads(107, 5, read), reads(90, 5, read), asks(5, read), asks(53, read), asks(159, read), quadIo(5, 0, read))
	}
	for _, b := range []int{4, 6, 117, 122, 32} {
		all = append(all, asks(b, 1), writes(b, 0, 1), order{b, 0, []int{1}, 1})
	}
	for _, b := range []int{1, 2} {
		all = append(all, asks(b, 1), order{b, 0, []int{1}, 1})
	}
	for _, b := range []int{5, 53, 159, 3, 90, 107} {
		all = append(all, order{b, 0, []int{0}, 1}, writes(b, 0, 160), writes(b, 0, 1, 2))
	}
	return append(all, reads(235, 5, 3), writes(235, 5, 0, 0), order{235, 5, []int{160, 160}, 3}, order{235, 5, some(6), 0})
}

// states bring a chip and its controller into the midst of something.
func states(t *testing.T) []*rig {
	t.Helper()
	fresh, goesOn, busy, suspended, bounded := newRig(t, 3), quadRig(t), quadRig(t, 300), quadRig(t, 300), quadRig(t)
	goesOn.run(quadIo(700, 160, 2))
	busy.run(plain(6), plain32(3000))
	suspended.run(plain(6), plain32(3000), plain(117), quadIo(700, 160, 2))
	bounded.cut(0)
	return []*rig{fresh, goesOn, busy, suspended, bounded}
}

// TestWrongOrders: what layer 9 refuses takes no clock, and ends no read that goes on.
func TestWrongOrders(t *testing.T) {
	for i, r := range states(t) {
		for _, o := range wrongOrders() {
			r.refuse(o, api.ErrCtlForm)
		}
		if i < 4 {
			r.run(quadIo(701, 160, 2), asks(5, 1))
		}
		r.alike()
	}
}

// TestSelected: somebody has the chip. Layer 10 tells it, and there is no clock, whatever the bound; a read goes on for the controller still.
func TestSelected(t *testing.T) {
	orders := []order{asks(159, 3), asks(5, 1), plain(6), plain32(9), writes(2, 5, 1, 2), reads(3, 9, 9), reads(107, 9, 9), quadIo(9, 160, 9), quadIo(9, 0, 9)}
	for i := range states(t) {
		for _, o := range orders {
			r := states(t)[i]
			r.chip.Select()
			r.hand.Select()
			r.refuse(o, api.ErrWireForm)
			r.refuse(plain(7), api.ErrCtlForm)
			r.refuse(o, api.ErrWireForm)
			r.both(15, 15, 14, 15)
			r.refuse(o, api.ErrWireForm)
			if e := r.chip.Select(); e != api.ErrChipForm {
				t.Errorf("P11.2: selected no more: error %d", e)
			}
			r.chip.Deselect()
			r.hand.Deselect()
			if r.run(o); !r.lost {
				r.run(o)
			}
			r.alike()
		}
	}
}

// TestSelectedFallsNothing: beside layer 10's error the bound stays as it was.
func TestSelectedFallsNothing(t *testing.T) {
	r := quadRig(t)
	r.run(quadIo(9, 160, 1))
	r.cut(24)
	r.chip.Select()
	r.hand.Select()
	for range 5 {
		r.refuse(asks(5, 1), api.ErrWireForm)
	}
	r.chip.Deselect()
	r.hand.Deselect()
	r.run(asks(5, 1))
	if r.lost {
		t.Error("P11.2: the bound fell beside layer 10's error")
	}
	r.run(plain(6))
}

// byChance makes an order by chance that layer 9 takes.
func byChance(x *rand.Rand) order {
	at, n := x.Intn(api.Size), x.Intn(9)
	data := some(n + x.Intn(40))
	switch x.Intn(10) {
	case 0:
		return plain([]int{4, 6, 117, 122}[x.Intn(4)])
	case 1:
		return asks([]int{5, 53, 159}[x.Intn(3)], n)
	case 2:
		return writes(2, at, data...)
	case 3:
		return writes(1, 0, x.Intn(8), 2)
	case 4:
		return plain32(at)
	case 5:
		return plain(6)
	case 6:
		return reads([]int{3, 90, 107}[x.Intn(3)], at, n)
	}
	return quadIo(at, []int{160, 160, 0, 17}[x.Intn(4)], n)
}

// TestByChance runs orders by chance on one chip and by hand on another, with bounds now and then, until the power goes.
func TestByChance(t *testing.T) {
	x := rand.New(rand.NewSource(11))
	losses := 0
	for range 300 {
		r := quadRig(t, 1+x.Intn(100), 1+x.Intn(400))
		for range 30 {
			if x.Intn(8) == 0 {
				r.cut(x.Intn(3000))
			}
			if r.run(byChance(x)); r.lost {
				losses++
				break
			}
		}
		r.alike()
	}
	if losses < 50 || losses > 250 {
		t.Errorf("the power went in %d of 300", losses)
	}
}

// TestDataStay: what is handed in stays as it was, its spare room too, also when the answer is written over; and it is not kept (R4).
func TestDataStay(t *testing.T) {
	r := quadRig(t, 200)
	room := some(9)
	r.run(plain(6), order{2, 3347, room[2:5], 0})
	if !slices.Equal(room, some(9)) {
		t.Errorf("R4: the data are %v", room)
	}
	other := some(9)
	if _, e := r.c.Run(235, 9, other[3:4], 5); e != api.OK || !slices.Equal(other, some(9)) {
		t.Errorf("R4: the mode bits are %v, error %d", other, e)
	}
	if _, e := r.c.Run(235, 9, other[3:5], 5); e != api.ErrCtlForm || !slices.Equal(other, some(9)) {
		t.Errorf("R4: the mode bits are %v, error %d", other, e)
	}
	kept := quadRig(t, 200)
	page := some(12)
	kept.run(plain(6))
	kept.c.Run(2, 3347, page, 0)
	kept.byHand(writes(2, 3347, some(12)...))
	for i := range page {
		page[i] = 77
	}
	kept.alike()
}

// TestModeIsNotKept: mode bits that are written over behind a command do not bring a read to go on, nor end it.
func TestModeIsNotKept(t *testing.T) {
	r := quadRig(t)
	for _, modes := range [][2]int{{160, 0}, {0, 160}} {
		data := []int{modes[0]}
		was := r.c.Clocks()
		r.c.Run(235, 9, data, 1)
		data[0] = modes[1]
		r.c.Run(235, 9, []int{0}, 1)
		want := 22 + 22
		if modes[0] == 160 {
			want = 22 + 14
		}
		if got := r.c.Clocks() - was; got != want {
			t.Errorf("R4: %v: %d clocks, wanted %d", modes, got, want)
		}
	}
}

// TestAnswersShareNothing: an answer that is written over leaves an earlier one and a later one as they are (R4).
func TestAnswersShareNothing(t *testing.T) {
	c := newCtl(t)
	want := []int{239, 64, 12, 239, 64}
	first, _ := c.Run(159, 0, nil, 5)
	second, _ := c.Run(159, 0, nil, 5)
	for i := range second[:cap(second)] {
		second[:cap(second)][i] = -9
	}
	third, _ := c.Run(159, 0, nil, 5)
	if !slices.Equal(first, want) || !slices.Equal(third, want) {
		t.Errorf("R4: %v, %v; wanted %v", first, third, want)
	}
}

// TestEmptyAndNil: no data are an empty list and nil.
func TestEmptyAndNil(t *testing.T) {
	for _, o := range []order{plain(6), asks(159, 3), reads(3, 5, 3), plain32(9), writes(2, 5), writes(1, 0)} {
		r := newRig(t)
		r.run(o)
		o.data = []int{}
		r.run(o)
		o.data = some(9)[:0]
		r.run(o)
	}
}

// TestSameAgain: the same answers of controllers that were made alike, with refused calls between (R5).
func TestSameAgain(t *testing.T) {
	r := quadRig(t)
	var last []int
	for i := range 5 {
		r.refuse(plain(7), api.ErrCtlForm)
		got, e := r.c.Run(235, 771, []int{0}, 16)
		if e != api.OK || len(got) != 16 || i > 0 && !slices.Equal(got, last) {
			t.Errorf("R5: %v, error %d; at first %v", got, e, last)
		}
		last = got
		r.clocks += 52
	}
}

// TestAtOnce: several goroutines, each with a controller and a chip of its own (R5).
func TestAtOnce(t *testing.T) {
	rigs := make([]*rig, 8)
	for i := range rigs {
		rigs[i] = quadRig(t)
	}
	data := []int{160}
	var all sync.WaitGroup
	for _, r := range rigs {
		all.Go(func() {
			for range 20 {
				got, e := r.c.Run(235, 2, data, 2)
				if e != api.OK || !slices.Equal(got, []int{19, 26}) {
					t.Errorf("R5: %v, error %d", got, e)
				}
				if got, e = r.c.Run(159, 0, nil, 1); e != api.OK || !slices.Equal(got, []int{239}) {
					t.Errorf("R5: %v, error %d", got, e)
				}
			}
			if r.c.Clocks() != 32+20*48 {
				t.Errorf("R5: %d clocks", r.c.Clocks())
			}
		})
	}
	all.Wait()
}
