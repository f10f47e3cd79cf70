package lane

import (
	"math"
	"slices"
	"sync"
	"testing"

	"lichen/api"
)

// bits tells the eight bits of a byte, the highest first, by asking each place for itself.
func bits(b int) []int {
	var xs []int
	for _, worth := range []int{128, 64, 32, 16, 8, 4, 2, 1} {
		x := 0
		if b&worth != 0 {
			x = 1
		}
		xs = append(xs, x)
	}
	return xs
}

// carried tells what the lanes carry of a byte; of four it counts up to the byte, half by half.
func carried(b, lanes int) []int {
	if lanes == 1 {
		return bits(b)
	}
	high, low := 0, 0
	for range b {
		if low++; low == 16 {
			high, low = high+1, 0
		}
	}
	return []int{high, low}
}

// lanesThere are the numbers of lanes that there are, and lanesNone some that there are not.
func lanesThere() []int { return []int{1, 4} }
func lanesNone() []int {
	return []int{-1, 0, 2, 3, 5, 6, 7, 8, 9, 16, -4, 63, 64, 65, 257, 260, math.MinInt, math.MaxInt, math.MinInt + 1, math.MinInt + 4, 1<<32 + 1, 1<<32 + 4}
}

// top tells the greatest number that lanes carry at one clock.
func top(lanes int) int {
	if lanes == 1 {
		return 1
	}
	return 15
}

// checkOut wants what the lanes carry, and no error.
func checkOut(t *testing.T, b, lanes int, want []int) {
	t.Helper()
	if got, e := Out(b, lanes); e != api.OK || !slices.Equal(got, want) {
		t.Errorf("P3.1: Out(%d, %d): %v, error %d; wanted %v", b, lanes, got, e, want)
	}
}

// checkIn wants a byte, and no error.
func checkIn(t *testing.T, xs []int, lanes, want int) {
	t.Helper()
	if got, e := In(xs, lanes); e != api.OK || got != want {
		t.Errorf("P3.1: In(%v, %d): %d, error %d; wanted %d", xs, lanes, got, e, want)
	}
}

// refuseOut wants the form error, and beside it no values (R2).
func refuseOut(t *testing.T, b, lanes int) {
	t.Helper()
	if got, e := Out(b, lanes); e != api.ErrLaneForm || len(got) != 0 {
		t.Errorf("P3.1: Out(%d, %d): %v, error %d; wanted none, error %d", b, lanes, got, e, api.ErrLaneForm)
	}
}

// refuseIn wants the form error, and beside it 0 (R2).
func refuseIn(t *testing.T, xs []int, lanes int) {
	t.Helper()
	if got, e := In(xs, lanes); e != api.ErrLaneForm || got != 0 {
		t.Errorf("P3.1: In(%v, %d): %d, error %d; wanted 0, error %d", xs, lanes, got, e, api.ErrLaneForm)
	}
}

func TestEveryByte(t *testing.T) {
	for b := range 256 {
		for _, lanes := range lanesThere() {
			want := carried(b, lanes)
			checkOut(t, b, lanes, want)
			checkIn(t, want, lanes, b)
			there, _ := Out(b, lanes)
			checkIn(t, there, lanes, b)
		}
	}
}

func TestByHand(t *testing.T) {
	for _, c := range []struct {
		b         int
		one, four []int
	}{
		{0, []int{0, 0, 0, 0, 0, 0, 0, 0}, []int{0, 0}},
		{1, []int{0, 0, 0, 0, 0, 0, 0, 1}, []int{0, 1}},
		{16, []int{0, 0, 0, 1, 0, 0, 0, 0}, []int{1, 0}},
		{128, []int{1, 0, 0, 0, 0, 0, 0, 0}, []int{8, 0}},
		{159, []int{1, 0, 0, 1, 1, 1, 1, 1}, []int{9, 15}},
		{53, []int{0, 0, 1, 1, 0, 1, 0, 1}, []int{3, 5}},
		{255, []int{1, 1, 1, 1, 1, 1, 1, 1}, []int{15, 15}},
	} {
		checkOut(t, c.b, 1, c.one)
		checkOut(t, c.b, 4, c.four)
		checkIn(t, c.one, 1, c.b)
		checkIn(t, c.four, 4, c.b)
	}
}

func TestOutRefusesBytes(t *testing.T) {
	for _, lanes := range lanesThere() {
		for _, b := range []int{-1, 256, -2, 257, -255, -256, 511, 512, -128, 1 << 16, 1 << 32, 1<<32 + 5, math.MinInt, math.MinInt + 5, math.MaxInt} {
			refuseOut(t, b, lanes)
		}
		checkOut(t, 0, lanes, carried(0, lanes))
		checkOut(t, 255, lanes, carried(255, lanes))
	}
}

func TestRefusesLanes(t *testing.T) {
	for _, lanes := range lanesNone() {
		for _, b := range []int{-1, 0, 5, 255, 256, math.MinInt, math.MaxInt} {
			refuseOut(t, b, lanes)
		}
		for n := range 18 {
			refuseIn(t, make([]int, n), lanes)
		}
		refuseIn(t, nil, lanes)
	}
}

// TestInAtEachPlace tries at each place the edges of what a clock carries, and what is beyond them.
func TestInAtEachPlace(t *testing.T) {
	for _, lanes := range lanesThere() {
		for _, b := range []int{0, 90, 165, 255} {
			for place := range carried(b, lanes) {
				for _, x := range []int{-1, 0, 1, 2, 15, 16, -2, -15, -16, 3, 17, 255, 256, 1 << 32, math.MinInt, math.MaxInt} {
					xs := carried(b, lanes)
					xs[place] = x
					if x < 0 || x > top(lanes) {
						refuseIn(t, xs, lanes)
						continue
					}
					checkIn(t, xs, lanes, byteOf(xs, lanes))
				}
			}
		}
	}
}

// byteOf looks for the byte that is carried as xs.
func byteOf(xs []int, lanes int) int {
	for b := range 256 {
		if slices.Equal(carried(b, lanes), xs) {
			return b
		}
	}
	return -1
}

func TestInRefusesHowMany(t *testing.T) {
	for _, lanes := range lanesThere() {
		refuseIn(t, nil, lanes)
		refuseIn(t, []int{}, lanes)
		for _, b := range []int{0, 1, 53, 255} {
			xs := carried(b, lanes)
			for n := range xs {
				refuseIn(t, xs[:n], lanes)
				refuseIn(t, xs[len(xs)-n:], lanes)
			}
			refuseIn(t, append(carried(b, lanes), 0), lanes)
			refuseIn(t, append([]int{0}, carried(b, lanes)...), lanes)
			refuseIn(t, append(carried(b, lanes), carried(b, lanes)...), lanes)
		}
		refuseIn(t, make([]int, api.Size), lanes)
	}
}

func TestInRefusesOtherLanes(t *testing.T) {
	for b := range 256 {
		refuseIn(t, carried(b, 1), 4)
		refuseIn(t, carried(b, 4), 1)
	}
}

// TestMemory wants what comes in as it was, its spare room too, and each answer for itself (R4).
func TestMemory(t *testing.T) {
	for _, lanes := range lanesThere() {
		room := append(carried(90, lanes), 7, 8, 9)
		was := slices.Clone(room)
		checkIn(t, room[:len(room)-3], lanes, 90)
		if !slices.Equal(room, was) {
			t.Errorf("R4: In with %d lanes left %v of %v", lanes, room, was)
		}
		first, _ := Out(90, lanes)
		second, _ := Out(90, lanes)
		for i := range first[:cap(first)] {
			first[:cap(first)][i] = -1
		}
		if !slices.Equal(second, carried(90, lanes)) {
			t.Errorf("R4: Out with %d lanes shares its answers: %v", lanes, second)
		}
		checkOut(t, 90, lanes, carried(90, lanes))
	}
}

// TestManyAtOnce calls from several goroutines at one time (R5), each with the same answer.
func TestManyAtOnce(t *testing.T) {
	var group sync.WaitGroup
	for range 8 {
		group.Go(func() {
			for b := range 256 {
				for _, lanes := range lanesThere() {
					checkOut(t, b, lanes, carried(b, lanes))
					checkIn(t, carried(b, lanes), lanes, b)
				}
			}
		})
	}
	group.Wait()
}
