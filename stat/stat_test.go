package stat

import (
	"math"
	"sync"
	"testing"

	"lichen/api"
)

// firstCase is a call of First, with the sum that the document names.
type firstCase struct {
	busy, enabled, protected bool
	want                     int
}

// firstCases tells all calls of First, by numbers. They are written out anew for each who asks.
func firstCases() []firstCase {
	return []firstCase{
		{false, false, false, 0},
		{true, false, false, 1},
		{false, true, false, 2},
		{true, true, false, 3},
		{false, false, true, 4},
		{true, false, true, 5},
		{false, true, true, 6},
		{true, true, true, 7},
	}
}

// secondCase is a call of Second, with the sum that the document names.
type secondCase struct {
	quad, suspended bool
	want            int
}

// secondCases tells all calls of Second, by numbers. They are written out anew for each who asks.
func secondCases() []secondCase {
	return []secondCase{
		{false, false, 0},
		{true, false, 2},
		{false, true, 128},
		{true, true, 130},
	}
}

// checkFirst wants a sum of First.
func checkFirst(t *testing.T, c firstCase) {
	t.Helper()
	if got := First(c.busy, c.enabled, c.protected); got != c.want {
		t.Errorf("P5.1: First(%v, %v, %v): %d; wanted %d", c.busy, c.enabled, c.protected, got, c.want)
	}
}

// checkSecond wants a sum of Second.
func checkSecond(t *testing.T, c secondCase) {
	t.Helper()
	if got := Second(c.quad, c.suspended); got != c.want {
		t.Errorf("P5.1: Second(%v, %v): %d; wanted %d", c.quad, c.suspended, got, c.want)
	}
}

// checkProtected wants an answer, and no error.
func checkProtected(t *testing.T, protected bool, at int, want bool) {
	t.Helper()
	if got, e := Protected(protected, at); e != api.OK || got != want {
		t.Errorf("P5.2: Protected(%v, %d): %v, error %d; wanted %v", protected, at, got, e, want)
	}
}

// refuseProtected wants the form error, and false beside it (R2), protection or none.
func refuseProtected(t *testing.T, at int) {
	t.Helper()
	for _, protected := range []bool{true, false} {
		if got, e := Protected(protected, at); e != api.ErrStatForm || got {
			t.Errorf("P5.2: Protected(%v, %d): %v, error %d; wanted false, error %d", protected, at, got, e, api.ErrStatForm)
		}
	}
}

func TestFirst(t *testing.T) {
	for _, c := range firstCases() {
		checkFirst(t, c)
	}
}

func TestSecond(t *testing.T) {
	for _, c := range secondCases() {
		checkSecond(t, c)
	}
}

// TestFirstByName looks at the bits one by one, by the names that the document uses, and wants no other one.
func TestFirstByName(t *testing.T) {
	for _, c := range firstCases() {
		got := First(c.busy, c.enabled, c.protected)
		if (got&api.Busy != 0) != c.busy || (got&api.Enabled != 0) != c.enabled || (got&api.Protect != 0) != c.protected {
			t.Errorf("P5.1: First(%v, %v, %v): %d has not the bits that are so", c.busy, c.enabled, c.protected, got)
		}
		if other := got &^ (api.Busy | api.Enabled | api.Protect); other != 0 {
			t.Errorf("P5.1: First(%v, %v, %v): %d has bits of %d too", c.busy, c.enabled, c.protected, got, other)
		}
	}
}

// TestSecondByName looks at the bits one by one, by the names that the document uses, and wants no other one.
func TestSecondByName(t *testing.T) {
	for _, c := range secondCases() {
		got := Second(c.quad, c.suspended)
		if (got&api.Quad != 0) != c.quad || (got&api.Suspended != 0) != c.suspended {
			t.Errorf("P5.1: Second(%v, %v): %d has not the bits that are so", c.quad, c.suspended, got)
		}
		if other := got &^ (api.Quad | api.Suspended); other != 0 {
			t.Errorf("P5.1: Second(%v, %v): %d has bits of %d too", c.quad, c.suspended, got, other)
		}
	}
}

// TestEveryPlace goes through the sectors, so that each place is held against the number of its sector.
func TestEveryPlace(t *testing.T) {
	places := 0
	for sector := range api.Sectors {
		for at := sector * api.SectorSize; at < (sector+1)*api.SectorSize; at++ {
			checkProtected(t, true, at, sector < api.Image)
			checkProtected(t, false, at, false)
			places++
		}
	}
	if places != api.Size {
		t.Errorf("P5.2: %d places were asked for; wanted %d", places, api.Size)
	}
}

// TestEdges asks for the places beside each edge, by numbers.
func TestEdges(t *testing.T) {
	for _, c := range []struct {
		at   int
		want bool
	}{
		{0, true},
		{1, true},
		{511, true},
		{512, true},
		{1536, true},
		{2046, true},
		{2047, true},
		{2048, false},
		{2049, false},
		{2560, false},
		{4094, false},
		{4095, false},
	} {
		checkProtected(t, true, c.at, c.want)
		checkProtected(t, false, c.at, false)
	}
	for _, at := range []int{-2, -1, 4096, 4097} {
		refuseProtected(t, at)
	}
}

func TestEdgesByName(t *testing.T) {
	checkProtected(t, true, api.Image*api.SectorSize-1, true)
	checkProtected(t, true, api.Image*api.SectorSize, false)
	checkProtected(t, true, api.Size-1, false)
	checkProtected(t, false, 0, false)
	checkProtected(t, false, api.Size-1, false)
	refuseProtected(t, api.Size)
}

func TestRefusesPlaces(t *testing.T) {
	for _, at := range []int{-512, -2048, -4095, -4096, -4097, 4608, 8191, 8192, math.MinInt8, math.MinInt16, math.MaxInt16, math.MinInt32, math.MaxInt32, math.MinInt, math.MinInt + 1, math.MaxInt - 1, math.MaxInt} {
		refuseProtected(t, at)
	}
}

// TestFarPlaces asks for what would be a place if only its lowest bits counted.
func TestFarPlaces(t *testing.T) {
	for _, at := range []int{0, 1, 511, 512, 2047, 2048, 4095} {
		for _, far := range []int{api.Size, 2 * api.Size, -api.Size, -2 * api.Size, 1 << 16, -1 << 16, 1 << 24, 1 << 31, 1 << 32, -1 << 32, 1 << 62, math.MinInt} {
			refuseProtected(t, at+far)
		}
		refuseProtected(t, ^at)
	}
}

// askAgain makes calls of each kind, wrong ones among them.
func askAgain(t *testing.T) {
	t.Helper()
	for _, c := range firstCases() {
		checkFirst(t, c)
		refuseProtected(t, api.Size)
	}
	for _, c := range secondCases() {
		checkSecond(t, c)
		checkProtected(t, true, 2047, true)
		refuseProtected(t, -1)
		checkProtected(t, true, 2048, false)
		checkProtected(t, false, 2047, false)
	}
}

// TestSameAgain wants the same answers whatever was asked ahead of them (R5).
func TestSameAgain(t *testing.T) {
	for range 3 {
		askAgain(t)
	}
}

// TestManyAtOnce calls from several goroutines at one time (R5), each with the same answers.
func TestManyAtOnce(t *testing.T) {
	var group sync.WaitGroup
	for range 8 {
		group.Go(func() {
			askAgain(t)
		})
	}
	group.Wait()
}
