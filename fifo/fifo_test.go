package fifo

import (
	"math"
	"sync"
	"testing"

	"lichen/api"
)

// held is a Fifo beside a plain row of what must be in it: after each call the two are held against each other.
type held struct {
	t    *testing.T
	f    *Fifo
	want []int
}

func hold(t *testing.T) *held {
	h := &held{t: t, f: New()}
	h.len()
	return h
}

// len wants as many as the row has, asked twice: asking turns nothing.
func (h *held) len() {
	h.t.Helper()
	for range 2 {
		if n := h.f.Len(); n != len(h.want) {
			h.t.Fatalf("P8.1: Len: %d, wanted %d", n, len(h.want))
		}
	}
}

// push wants what a row of at most 16 would do.
func (h *held) push(b int) {
	h.t.Helper()
	want := api.ErrFifoFull
	if len(h.want) < 16 {
		want = api.OK
		h.want = append(h.want, b)
	}
	if e := h.f.Push(b); e != want {
		h.t.Fatalf("P8.1: Push(%d) with %d in: error %d, wanted %d", b, len(h.want), e, want)
	}
	h.len()
}

// pop wants the first of the row, or the error of an empty one with nothing beside it (R2).
func (h *held) pop() {
	h.t.Helper()
	first, want := 0, api.ErrFifoEmpty
	if len(h.want) > 0 {
		first, want = h.want[0], api.OK
		h.want = h.want[1:]
	}
	if b, e := h.f.Pop(); b != first || e != want {
		h.t.Fatalf("P8.1: Pop: %d, error %d; wanted %d, error %d", b, e, first, want)
	}
	h.len()
}

// drain pops all, and once more.
func (h *held) drain() {
	h.t.Helper()
	for len(h.want) > 0 {
		h.pop()
	}
	h.pop()
}

func TestNumbers(t *testing.T) {
	if api.MaxFifo != 16 || api.ErrFifoEmpty != 800 || api.ErrFifoFull != 801 || api.ErrNil != 1 {
		t.Error("numbers of the document")
	}
}

func TestNewIsEmpty(t *testing.T) {
	f := New()
	if f == nil {
		t.Fatal("P8.1: New: nil")
	}
	if n := f.Len(); n != 0 {
		t.Errorf("P8.1: Len of a new one: %d", n)
	}
	if b, e := f.Pop(); b != 0 || e != api.ErrFifoEmpty {
		t.Errorf("P8.1: Pop of a new one: %d, error %d", b, e)
	}
	if n := f.Len(); n != 0 {
		t.Errorf("P8.1: Len behind that: %d", n)
	}
}

func TestAnyNumbersComeOutInTheirRow(t *testing.T) {
	h := hold(t)
	for _, b := range []int{0, 1, -1, 255, 256, -256, math.MaxInt32, math.MinInt32, math.MaxInt, math.MinInt, math.MaxInt, 0, 0, 7, 7} {
		h.push(b)
	}
	h.drain()
}

func TestEachNumberAlone(t *testing.T) {
	h := hold(t)
	for b := -300; b <= 300; b++ {
		h.push(b)
		h.pop()
	}
	for bit := range 64 {
		h.push(1 << bit)
		h.pop()
		h.push(-1 << bit)
		h.pop()
	}
	h.drain()
}

func TestFull(t *testing.T) {
	h := hold(t)
	for b := range 16 {
		h.push(100 + b)
	}
	for b := range 5 {
		h.push(-b)
	}
	if len(h.want) != 16 {
		t.Fatalf("the row has %d", len(h.want))
	}
	h.pop()
	h.push(1000)
	h.push(2000)
	h.drain()
}

func TestEmptyAgain(t *testing.T) {
	h := hold(t)
	for n := range 17 {
		for b := range n {
			h.push(b + 1)
		}
		h.drain()
		h.pop()
		h.push(n)
		h.drain()
	}
}

// Wherever the ring begins: fill it, refuse, empty it, refuse.
func TestFullAndEmptyFromEachPlace(t *testing.T) {
	for begin := range 40 {
		h := hold(t)
		for b := range begin {
			h.push(b)
			h.pop()
		}
		for b := range 18 {
			h.push(begin*100 + b)
		}
		h.drain()
		h.pop()
	}
}

// With n in it all the time, each one comes out n calls behind its own.
func TestEachFillAllTheWayRound(t *testing.T) {
	for n := range 17 {
		h := hold(t)
		for b := range n {
			h.push(b)
		}
		for b := range 100 {
			if n == 16 {
				h.pop()
				h.push(1000 + b)
			} else {
				h.push(1000 + b)
				h.pop()
			}
		}
		if len(h.want) != n {
			t.Fatalf("the row has %d, wanted %d", len(h.want), n)
		}
		h.drain()
	}
}

// All rows of sixteen pushes and pops there are, each from an empty one at another place.
func TestAllShortRows(t *testing.T) {
	for row := range 1 << 16 {
		h := &held{t: t, f: New()}
		h.f.first = row % 16
		for step := range 16 {
			if row>>step&1 == 1 {
				h.push(row ^ step<<20)
			} else {
				h.pop()
			}
		}
	}
}

func TestLongRows(t *testing.T) {
	seed := uint64(8)
	next := func(n int) int {
		seed = seed*6364136223846793005 + 1442695040888963407
		return int(seed >> 33 % uint64(n))
	}
	h := hold(t)
	fulls, empties := 0, 0
	for step := range 50000 {
		// The lot leans now to pushes, now to pops, so that both ends are met often.
		if lean := 1 + step/200%2; next(3) < lean {
			if len(h.want) == 16 {
				fulls++
			}
			h.push(next(1<<30) - 1<<29)
		} else {
			if len(h.want) == 0 {
				empties++
			}
			h.pop()
		}
	}
	if fulls < 100 || empties < 100 {
		t.Errorf("met full %d times, empty %d times: too few to tell", fulls, empties)
	}
	h.drain()
}

func TestTwoShareNothing(t *testing.T) {
	a, b := hold(t), hold(t)
	if a.f == b.f {
		t.Fatal("R4: New told one twice")
	}
	for i := range 200 {
		a.push(i)
		if i%3 > 0 {
			b.push(-i)
		}
		if i%2 > 0 {
			b.pop()
		}
		if i%5 > 2 {
			a.pop()
		}
		a.len()
		b.len()
	}
	a.drain()
	b.len()
	b.drain()
}

// A copy of the struct has its own ring: nothing of it is shared.
func TestACopyIsAnotherOne(t *testing.T) {
	h := hold(t)
	for b := range 10 {
		h.push(b)
	}
	other := *h.f
	for range 10 {
		other.Pop()
	}
	for range 16 {
		other.Push(99)
	}
	h.drain()
}

func TestZeroValueIsEmpty(t *testing.T) {
	h := &held{t: t, f: &Fifo{}}
	h.len()
	h.pop()
	for b := range 18 {
		h.push(b + 1)
	}
	h.drain()
}

func TestNil(t *testing.T) {
	var f *Fifo
	for _, b := range []int{0, 1, math.MaxInt, math.MinInt} {
		if e := f.Push(b); e != api.ErrNil {
			t.Errorf("R3: Push(%d) of nil: error %d", b, e)
		}
	}
	if b, e := f.Pop(); b != 0 || e != api.ErrNil {
		t.Errorf("R3: Pop of nil: %d, error %d", b, e)
	}
	if n := f.Len(); n != 0 {
		t.Errorf("R3: Len of nil: %d", n)
	}
}

// Errors leave all as it was: the same row comes out with them and without (R5).
func TestErrorsTurnNothing(t *testing.T) {
	quiet, tried := New(), New()
	for b := range 16 {
		quiet.Push(b)
		tried.Push(b)
	}
	for b := range 40 {
		if e := tried.Push(1000 + b); e != api.ErrFifoFull {
			t.Fatalf("P8.1: error %d", e)
		}
	}
	for range 16 {
		want, _ := quiet.Pop()
		if b, e := tried.Pop(); b != want || e != api.OK {
			t.Fatalf("R5: %d, error %d; wanted %d", b, e, want)
		}
	}
	for range 40 {
		if b, e := tried.Pop(); b != 0 || e != api.ErrFifoEmpty {
			t.Fatalf("P8.1: %d, error %d", b, e)
		}
	}
	for b := range 16 {
		if e := tried.Push(b); e != api.OK {
			t.Fatalf("R5: Push behind refused pops: error %d", e)
		}
	}
	for want := range 16 {
		if b, e := tried.Pop(); b != want || e != api.OK {
			t.Fatalf("R5: %d, error %d; wanted %d", b, e, want)
		}
	}
}

// Each goroutine has its own; the race detector would tell what they share (R5).
func TestManyAtOnce(t *testing.T) {
	var all sync.WaitGroup
	for g := range 8 {
		all.Go(func() {
			f := New()
			for i := range 1000 {
				f.Push(g*1000 + i)
				if b, e := f.Pop(); b != g*1000+i || e != api.OK {
					t.Errorf("R5: %d, error %d; wanted %d", b, e, g*1000+i)
					return
				}
			}
		})
	}
	all.Wait()
}
