package wire

import (
	"slices"
	"sync"
	"testing"

	"lichen/api"
)

// checkClocks wants so many clocks, and no error.
func checkClocks(t *testing.T, ps []api.Phase, want int) {
	t.Helper()
	if n, e := Clocks(ps); e != api.OK || n != want {
		t.Fatalf("P10.1: Clocks(%v): %d, error %d; wanted %d", ps, n, e, want)
	}
}

// refuseClocks wants the form error, and 0 beside it (R2).
func refuseClocks(t *testing.T, why string, ps []api.Phase) {
	t.Helper()
	if n, e := Clocks(ps); e != api.ErrWireForm || n != 0 {
		t.Errorf("P10.1: %s: Clocks(%v): %d, error %d; wanted 0, error %d", why, ps, n, e, api.ErrWireForm)
	}
}

func TestNumbers(t *testing.T) {
	if api.SectorSize != 512 || api.MaxBusy != 400 || api.ErrWireForm != 1000 {
		t.Errorf("the document's numbers: %d, %d, %d", api.SectorSize, api.MaxBusy, api.ErrWireForm)
	}
}

func TestOnePhase(t *testing.T) {
	for _, c := range []struct {
		p    api.Phase
		want int
	}{
		{say(1, 159), 8},
		{say(1, 1, 2, 3), 24},
		{say(1, some(511)...), 4088},
		{say(1, some(512)...), 4096},
		{say(4, 159), 2},
		{say(4, 0, 3, 3), 6},
		{say(4, some(511)...), 1022},
		{say(4, some(512)...), 1024},
		{nothing(1), 1},
		{nothing(8), 8},
		{nothing(399), 399},
		{nothing(400), 400},
		{come(1, 1), 8},
		{come(1, 32), 256},
		{come(1, 511), 4088},
		{come(1, 512), 4096},
		{come(4, 1), 2},
		{come(4, 16), 32},
		{come(4, 511), 1022},
		{come(4, 512), 1024},
	} {
		checkClocks(t, row(c.p), c.want)
		checkClocks(t, row(c.p, c.p), 2*c.want)
		checkClocks(t, row(nothing(5), c.p, nothing(2)), c.want+7)
	}
}

func TestRows(t *testing.T) {
	checkClocks(t, nil, 0)
	checkClocks(t, []api.Phase{}, 0)
	checkClocks(t, row(say(1, 6)), 8)
	checkClocks(t, row(say(1, 159), come(1, 3)), 32)
	checkClocks(t, row(say(1, 3), say(1, 0, 10, 1), come(1, 20)), 192)
	checkClocks(t, row(say(1, 2), say(1, 0, 10, 0), say(1, 1, 2, 3, 4)), 64)
	checkClocks(t, row(say(1, 90), say(1, 0, 0, 0), nothing(8), come(1, 32)), 296)
	checkClocks(t, row(say(1, 107), say(1, 0, 2, 1), nothing(8), come(4, 5)), 50)
	checkClocks(t, row(say(1, 235), say(4, 0, 3, 3), say(4, 160), nothing(4), come(4, 16)), 52)
	checkClocks(t, row(say(4, 0, 3, 3), say(4, 160), nothing(4), come(4, 16)), 44)
	checkClocks(t, slices.Repeat(row(nothing(400)), 100), 40000)
	checkClocks(t, slices.Repeat(row(come(1, 512), say(1, some(512)...)), 500), 4096000)
}

// TestEachNumber goes through the numbers of bytes, of clocks and of bytes to read, beyond both ends.
func TestEachNumber(t *testing.T) {
	for n := -3; n < 520; n++ {
		if n >= 1 && n <= 512 {
			checkClocks(t, row(say(1, some(n)...)), n*8)
			checkClocks(t, row(say(4, some(n)...)), n*2)
			checkClocks(t, row(come(1, n)), n*8)
			checkClocks(t, row(come(4, n)), n*2)
		} else {
			refuseClocks(t, "bytes", row(say(1, some(max(0, n))...)))
			refuseClocks(t, "bytes", row(say(4, some(max(0, n))...)))
			refuseClocks(t, "a read", row(come(1, n)))
			refuseClocks(t, "a read", row(come(4, n)))
		}
		if n >= 1 && n <= 400 {
			checkClocks(t, row(nothing(n)), n)
		} else {
			refuseClocks(t, "clocks", row(nothing(n)))
		}
	}
}

// TestEachByte goes through the bytes at each place of a short list, and at the ends of the longest, beyond both ends.
func TestEachByte(t *testing.T) {
	for x := -300; x < 600; x++ {
		for _, lanes := range []int{1, 4} {
			perByte := 8 / lanes
			for _, place := range []int{0, 1, 2, 255, 510, 511} {
				n := 3
				if place > 2 {
					n = 512
				}
				data := some(n)
				data[place] = x
				if x >= 0 && x <= 255 {
					checkClocks(t, row(say(lanes, data...)), n*perByte)
				} else {
					refuseClocks(t, "a byte", row(say(lanes, data...)))
				}
			}
		}
	}
}

// TestEachNumberOfLanes: bytes go and come on one lane and on four, clocks of nothing on none.
func TestEachNumberOfLanes(t *testing.T) {
	for lanes := -20; lanes < 40; lanes++ {
		if lanes == 1 || lanes == 4 {
			checkClocks(t, row(say(lanes, 7, 8)), 16/lanes)
			checkClocks(t, row(come(lanes, 2)), 16/lanes)
		} else {
			refuseClocks(t, "lanes of bytes", row(say(lanes, 7, 8)))
			refuseClocks(t, "lanes of a read", row(come(lanes, 2)))
		}
		if lanes == 0 {
			checkClocks(t, row(api.Phase{Clocks: 3}), 3)
		} else {
			refuseClocks(t, "lanes of clocks", row(api.Phase{Lanes: lanes, Clocks: 3}))
		}
	}
}

// TestWrongPhases: each at each place of a row.
func TestWrongPhases(t *testing.T) {
	for _, w := range wrongs() {
		for _, ps := range rowsWith(w.p) {
			refuseClocks(t, w.why, ps)
		}
	}
	for _, ps := range rowsWith(come(4, 2)) {
		if n, e := Clocks(ps); e != api.OK || n == 0 {
			t.Errorf("P10.1: Clocks(%v): %d, error %d", ps, n, e)
		}
	}
}

// TestFarInALongRow: one wrong phase is found wherever it stands.
func TestFarInALongRow(t *testing.T) {
	for _, place := range []int{0, 1, 499, 500, 998, 999} {
		ps := slices.Repeat(row(nothing(1)), 1000)
		checkClocks(t, ps, 1000)
		ps[place] = say(1, 256)
		refuseClocks(t, "far in a long row", ps)
	}
}

// TestAllTogether: each row of edges, one beside another.
func TestAllTogether(t *testing.T) {
	goods := 0
	for _, lanes := range []int{-1, 0, 1, 2, 3, 4, 5} {
		for _, data := range [][]int{nil, {}, {0}, {255}, {-1}, {256}, some(512), some(513)} {
			for _, clocks := range []int{-1, 0, 1, 400, 401} {
				for _, read := range []int{-1, 0, 1, 512, 513} {
					p := api.Phase{Lanes: lanes, Bytes: data, Clocks: clocks, Read: read}
					n, e := Clocks(row(p))
					if e == api.OK {
						goods++
					}
					if (e == api.OK) != (n > 0) || e != api.OK && e != api.ErrWireForm {
						t.Errorf("P10.1: Clocks(%v): %d, error %d", p, n, e)
					}
				}
			}
		}
	}
	// Bytes: two numbers of lanes, three lists. Clocks: two numbers. Read: two numbers of lanes, two numbers. The last four with a list that is nil and one that is empty.
	if want := 2*3 + 2*2 + 2*2*2; goods != want {
		t.Errorf("P10.1: %d phases may be; by hand %d may", goods, want)
	}
}

// TestClocksLeavesTheRow: what is handed in stays as it was, its spare room too (R4).
func TestClocksLeavesTheRow(t *testing.T) {
	room := row(say(1, 1, 2, 3), nothing(7), come(4, 2), say(4, 9), say(1, 256))
	was := copyOf(room)
	checkClocks(t, room[:3], 35)
	refuseClocks(t, "a byte", room)
	if !slices.EqualFunc(room, was, samePhase) {
		t.Errorf("R4: Clocks left %v of %v", room, was)
	}
}

// TestClocksAtOnce: several goroutines ask for one row at one time (R5).
func TestClocksAtOnce(t *testing.T) {
	var all sync.WaitGroup
	good, bad := row(say(1, 3), say(1, 0, 10, 1), come(1, 20)), row(say(1, 3), nothing(0))
	for range 8 {
		all.Go(func() {
			for range 200 {
				if n, e := Clocks(good); n != 192 || e != api.OK {
					t.Errorf("R5: %d, error %d", n, e)
				}
				if n, e := Clocks(bad); n != 0 || e != api.ErrWireForm {
					t.Errorf("R5: %d, error %d", n, e)
				}
			}
		})
	}
	all.Wait()
}
