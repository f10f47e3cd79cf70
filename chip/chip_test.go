package chip

import (
	"math"
	"slices"
	"strings"
	"sync"
	"testing"

	"lichen/api"
	"lichen/cell"
)

// zeros are the numbers of erases of a chip that was never erased.
func zeros() []int { return make([]int, api.Sectors) }

// fresh wants a chip of which nothing is so but its cells: not selected, not enabled, no read goes on, no duration comes.
func fresh(b bus, what string, cells string, first, second int) {
	b.t.Helper()
	b.cells(what, cells)
	b.status(what, first, second)
	if e := b.c.Deselect(); e != api.ErrChipForm {
		b.t.Fatalf("%s: it is selected: Deselect: error %d", what, e)
	}
	same(b.t, what+": a read goes on", b.ask(one(0, api.OpId), 8), told1(239))
	b.idle(api.MaxBusy + 1)
	b.cells(what, cells)
	b.status(what, first, second)
	b.program(outside, 255)
	b.idle(testUsual - 1)
	b.status(what+": a duration comes", first|api.Busy|api.Enabled, second)
	b.idle(1)
	b.status(what+": a duration comes", first, second)
}

func TestNew(t *testing.T) {
	for _, cells := range []string{cell.Blank(), pattern(), strings.Repeat("\x00", api.Size)} {
		b := newBus(t, cells)
		b.wipes("P6.1: New", zeros()...)
		fresh(b, "P6.1: New", cells, 0, 0)
		b.wipes("P6.1: New", zeros()...)
	}
}

func TestNewWrong(t *testing.T) {
	for _, n := range []int{0, 1, api.SectorSize, api.Size - 1, api.Size + 1, 2 * api.Size} {
		if c, e := New(strings.Repeat("\xff", n)); c != nil || e != api.ErrChipForm {
			t.Errorf("P6.1: New of %d bytes: %v, error %d; wanted nil, error %d", n, c, e, api.ErrChipForm)
		}
	}
}

// takes wants the next program and the next erase to take just so many clocks.
func takes(b bus, what string, clocks int, erases bool) {
	b.t.Helper()
	if erases {
		b.erase(outside)
	} else {
		b.program(outside, 0)
	}
	b.idle(clocks - 1)
	b.status(what, 3, 0)
	b.idle(1)
	b.status(what, 0, 0)
}

func TestNext(t *testing.T) {
	b := blankBus(t)
	takes(b, "P6.1: none comes", 8, false)
	b.next(1, 8, api.MaxBusy, 2)
	takes(b, "P6.1: the first", 1, true)
	takes(b, "P6.1: the second", 8, false)
	takes(b, "P6.1: the third", api.MaxBusy, true)
	b.next(5, 6)
	takes(b, "P6.1: those of the last Next", 5, false)
	b.next()
	takes(b, "P6.1: of an empty list", 8, true)
	full := make([]int, api.MaxFifo)
	for i := range full {
		full[i] = i + 1
	}
	b.next(full...)
	for i := range full {
		takes(b, "P6.1: MaxFifo durations", i+1, i%2 == 0)
	}
	takes(b, "P6.1: all have come", 8, false)
}

// What is under way has the duration with which it began.
func TestNextWhileBusy(t *testing.T) {
	b := blankBus(t)
	b.next(20)
	b.program(outside, 0)
	b.next(3, 4)
	b.idle(19)
	b.status("P6.1", 3, 0)
	b.idle(1)
	b.status("P6.1", 0, 0)
	takes(b, "P6.1", 3, false)
	takes(b, "P6.1", 4, false)
}

func TestNextWrong(t *testing.T) {
	wrong := [][]int{
		{0}, {-1}, {api.MaxBusy + 1}, {math.MinInt}, {math.MaxInt},
		{5, 0}, {0, 5}, {1 << 32, 5}, {1<<32 + 5}, {8, 8, 401},
		again(5, api.MaxFifo+1), again(0, api.MaxFifo+1), append(again(5, api.MaxFifo-1), 0),
	}
	for _, busy := range wrong {
		b := blankBus(t)
		b.next(11, 12)
		if e := b.c.Next(busy); e != api.ErrChipForm {
			t.Errorf("P6.1: Next(%v): error %d; wanted %d", busy, e, api.ErrChipForm)
		}
		takes(b, "R5: a wrong Next", 11, false)
		takes(b, "R5: a wrong Next", 12, true)
		takes(b, "R5: a wrong Next", 8, true)
	}
}

func TestWipes(t *testing.T) {
	b := blankBus(t)
	want := zeros()
	b.wipes("P6.1", want...)
	for round := range 3 {
		for s := range api.Sectors {
			if (s+round)%3 == 0 {
				continue
			}
			b.next(2)
			b.erase(s*api.SectorSize + round*255)
			want[s]++
			b.wipes("P6.1: begun", want...)
			b.idle(2)
			b.wipes("P6.1: done", want...)
		}
	}
	b.program(outside, 0)
	b.idle(8)
	b.say(withPlace(api.OpErase, 0)...)
	b.wipes("P6.1: a program, and an erase that is not enabled", want...)
	b.put(api.Protect, 0)
	b.erase(inside)
	b.wipes("P6.1: an erase of what is protected", want...)
	b.erase(outside)
	want[5]++
	b.say(api.OpSuspend)
	b.say(api.OpResume)
	b.wipes("P6.1: suspended, and resumed", want...)
	b.c.Loss("")
	b.wipes("P6.4", want...)
}

func TestStatus(t *testing.T) {
	b := blankBus(t)
	b.status("P6.1", 0, 0)
	b.say(api.OpEnable)
	b.status("P6.1: enabled", api.Enabled, 0)
	b.say(api.OpStatusPut, api.Protect, 0)
	b.status("P6.1: protected", api.Protect, 0)
	b.put(0, api.Quad)
	b.status("P6.1: quad", 0, api.Quad)
	b.put(255, 255)
	b.status("P6.1: both", api.Protect, api.Quad)
	b.put(^api.Protect&255, ^api.Quad&255)
	b.status("P6.1: all bits but these", 0, 0)
	b.put(api.Protect, api.Quad)
	b.next(100)
	b.erase(outside)
	b.status("P6.1: busy", api.Busy+api.Enabled+api.Protect, api.Quad)
	b.say(api.OpSuspend)
	b.status("P6.1: suspended", api.Enabled+api.Protect, api.Quad+api.Suspended)
	b.say(api.OpDisable)
	b.status("P6.1: not enabled", api.Protect, api.Quad+api.Suspended)
	b.say(api.OpResume)
	b.status("P6.1: busy, not enabled", api.Busy+api.Protect, api.Quad)
	b.idle(100)
	b.status("P6.1: done", api.Protect, api.Quad)
}

// Each clock's answer is written out here; elsewhere told1 and told4 make it.
func TestSaysByNumber(t *testing.T) {
	b := newBus(t, "\xa5\x0f\x71"+strings.Repeat("\x18", api.Size-3))
	same(t, "P6.2: OpId", b.ask(one(0, 159), 25), []int{
		15, 15, 15, 13, 15, 15, 15, 15,
		13, 15, 13, 13, 13, 13, 13, 13,
		13, 13, 13, 13, 15, 15, 13, 13,
		15})
	same(t, "P6.2: OpRead", b.ask(one(0, 3, 0, 0, 0), 16), []int{
		15, 13, 15, 13, 13, 15, 13, 15,
		13, 13, 13, 13, 15, 15, 15, 15})
	b.put(0, 2)
	same(t, "P6.2: OpQuadOut", b.ask(append(one(0, 107, 0, 0, 0), again(0, 8)...), 7), []int{10, 5, 0, 15, 7, 1, 1})
	same(t, "P6.2: OpQuadIo", b.ask(append(one(0, 235), 0, 0, 0, 0, 0, 1, 0, 0, 0, 0, 0, 0), 5), []int{0, 15, 7, 1, 1})
	b.say(6)
	same(t, "P6.2: OpStatus", b.ask(one(0, 5), 8), []int{13, 13, 13, 13, 13, 13, 15, 13})
	same(t, "P6.2: OpStatus2", b.ask(one(0, 53), 9), []int{13, 13, 13, 13, 13, 13, 15, 13, 13})
	same(t, "P6.2: OpSfdp", b.ask(append(one(0, 90, 0, 0, 0), again(15, 8)...), 16), []int{
		13, 15, 13, 15, 13, 13, 15, 15,
		13, 15, 13, 13, 13, 15, 15, 13})
}

// around is n bytes of a list from at on, over and over.
func around(xs []int, at, n int) []int {
	var part []int
	for i := range n {
		part = append(part, xs[(at+i)%len(xs)])
	}
	return part
}

// numbers are a text's bytes.
func numbers(s string) []int {
	var xs []int
	for i := range len(s) {
		xs = append(xs, int(s[i]))
	}
	return xs
}

// likeness is what chapter 7 says of this chip, written out.
func likeness() []int {
	xs := []int{83, 70, 68, 80, 6, 1, 0, 255, 0, 16, 0, 0, 0, 2, 0, 0, 32, 0, 0, 0}
	return append(xs, again(255, 12)...)
}

// places are addresses around the edges of the cells, of sectors, pages, of what OpSfdp tells, and ones that are great.
func places() []int {
	ps := []int{1<<24 - 1, 1<<23 + 5, 0x123456, 0xabcdef, 4096 * 4095}
	for _, edge := range []int{0, 32, 512, 2048, 4096, 8192, 1 << 16} {
		for d := -2; d <= 2; d++ {
			if edge+d >= 0 {
				ps = append(ps, edge+d)
			}
		}
	}
	return ps
}

func TestReads(t *testing.T) {
	cells := numbers(pattern())
	b := newBus(t, pattern())
	b.put(0, api.Quad)
	for i, at := range places() {
		noise := i * 2
		same(t, "P6.2: OpRead", b.ask(head(noise, api.OpRead, at, 0), 40), told1(around(cells, at, 5)...))
		same(t, "P6.2: OpSfdp", b.ask(head(noise, api.OpSfdp, at, 0), 560), told1(around(likeness(), at, 70)...))
		same(t, "P6.2: OpQuadOut", b.ask(head(noise, api.OpQuadOut, at, 0), 10), told4(around(cells, at, 5)...))
		same(t, "P6.2: OpQuadIo", b.ask(head(noise, api.OpQuadIo, at, 0), 10), told4(around(cells, at, 5)...))
	}
	b.cells("P6.2: reads", pattern())
	b.status("P6.2: reads", 0, api.Quad)
}

// All cells are told, and once more from the first on.
func TestReadsOverAndOver(t *testing.T) {
	cells := numbers(pattern())
	b := newBus(t, pattern())
	b.put(0, api.Quad)
	n := api.Size + 3
	same(t, "P6.2: OpRead", b.ask(head(0, api.OpRead, 0, 0), 8*n), told1(around(cells, 0, n)...))
	same(t, "P6.2: OpQuadOut", b.ask(head(0, api.OpQuadOut, 4095, 0), 2*n), told4(around(cells, 4095, n)...))
	same(t, "P6.2: OpQuadIo", b.ask(head(0, api.OpQuadIo, 9, 0), 2*n), told4(around(cells, 9, n)...))
}

// What is said to the chip while it tells something is nothing to it.
func TestReadsHearNothing(t *testing.T) {
	b := newBus(t, pattern())
	for in := range 16 {
		b.on()
		b.hush("P6.2", head(in, api.OpRead, 100, 0))
		same(t, "P6.2: OpRead", b.clocks(again(in, 24)), told1(around(numbers(pattern()), 100, 3)...))
		b.off()
	}
	b.cells("P6.2", pattern())
	b.status("P6.2", 0, 0)
}

// A read in part, and one broken off, leave nothing behind for the next.
func TestReadsCut(t *testing.T) {
	cells := numbers(pattern())
	b := newBus(t, pattern())
	b.put(0, api.Quad)
	for _, k := range []int{api.OpId, api.OpStatus, api.OpStatus2, api.OpRead, api.OpSfdp, api.OpQuadOut, api.OpQuadIo} {
		ins := append(head(0, k, 77, 0), again(0, 20)...)
		for n := range len(ins) {
			b.on()
			b.clocks(ins[:n])
			b.off()
			b.status("P6.3: a read that is cut", 0, api.Quad)
			same(t, "P6.3: behind a read that is cut", b.ask(head(0, api.OpRead, 5, 0), 16), told1(around(cells, 5, 2)...))
		}
	}
	b.cells("P6.3", pattern())
}

// Bytes that are no commands, and those on four lanes without quad, are never heard, whatever comes behind them.
func TestNotTaken(t *testing.T) {
	b := newBus(t, pattern())
	b.say(api.OpEnable)
	for k := range 256 {
		if slices.Contains(all(), k) && k != api.OpQuadOut && k != api.OpQuadIo {
			continue
		}
		b.raw(one(14, k))
		b.raw(append(one(0, k), again(15, 70)...))
		b.raw(append(one(0, k), one(0, api.OpProgram, 0, 10, 0, 0, 0)...))
		b.raw(slices.Concat(one(0, k), four(0, 10, 0, api.Goon), again(0, 20)))
		b.status("P6.2: not taken", api.Enabled, 0)
		same(t, "P6.2: not taken", b.ask(one(0, api.OpId), 8), told1(239))
	}
	b.idle(20)
	b.cells("P6.2: not taken", pattern())
	b.wipes("P6.2: not taken", zeros()...)
}

// Only the lowest lane of a command's byte, address and data counts, where they come on one lane.
func TestLowestLane(t *testing.T) {
	for noise := 0; noise < 16; noise += 2 {
		b := blankBus(t)
		b.raw(one(noise, api.OpEnable))
		b.status("P6.2: the lowest lane", api.Enabled, 0)
		b.raw(one(noise, api.OpStatusPut, 0, api.Quad))
		b.status("P6.2: the lowest lane", 0, api.Quad)
		b.raw(one(noise, api.OpEnable))
		b.raw(one(noise, api.OpProgram, 0, 10, 3, 0x5a))
		b.idle(8)
		b.cells("P6.2: the lowest lane", programmed(cell.Blank(), 0x0a03, 0x5a))
	}
}

// heard wants a command to be heard, or not, as it tells by data or does not.
func heard(b bus, k int, want bool) {
	b.t.Helper()
	b.on()
	b.hush("P6.2", head(0, k, 0x0a10, 0))
	outs := b.clocks(again(0, 24))
	b.off()
	if got := slices.ContainsFunc(outs, func(x int) bool { return x != testSilent }); got != want {
		b.t.Fatalf("P6.2: command %d is heard: %v; wanted %v", k, got, want)
	}
}

// tellers are the commands by which the chip tells something. None of what they tell here is all ones.
func tellers() []int {
	return []int{api.OpRead, api.OpStatus, api.OpStatus2, api.OpSfdp, api.OpQuadOut, api.OpId, api.OpQuadIo}
}

func TestTellersWhileBusy(t *testing.T) {
	for _, erases := range []bool{false, true} {
		for _, k := range tellers() {
			b := newBus(t, strings.Repeat("\x11", api.Size))
			b.put(0, api.Quad)
			b.next(api.MaxBusy)
			if erases {
				b.erase(0x0c00)
			} else {
				b.program(0x0c00, 0)
			}
			heard(b, k, k == api.OpStatus || k == api.OpStatus2)
			b.status("P6.2: busy", 3, api.Quad)
			b.say(api.OpSuspend)
			heard(b, k, erases || k == api.OpStatus || k == api.OpStatus2)
			b.idle(api.MaxBusy)
			if erases {
				b.status("P6.2: suspended", api.Enabled, api.Quad+api.Suspended)
			} else {
				b.status("P6.2: a program is not suspended", 0, api.Quad)
			}
		}
	}
}

// Reads while an erase is suspended tell the cells as they are: none of it is done.
func TestReadWhileSuspended(t *testing.T) {
	cells := numbers(pattern())
	b := newBus(t, pattern())
	b.put(0, api.Quad)
	b.next(30)
	b.erase(outside)
	b.idle(20)
	b.say(api.OpSuspend)
	same(t, "P6.2", b.ask(head(0, api.OpRead, outside, 0), 160), told1(around(cells, outside, 20)...))
	same(t, "P6.2", b.ask(head(0, api.OpQuadOut, outside, 0), 40), told4(around(cells, outside, 20)...))
	same(t, "P6.2", b.ask(head(0, api.OpQuadIo, outside, api.Goon), 40), told4(around(cells, outside, 20)...))
	same(t, "P6.2", b.ask(head(0, api.OpQuadIo, outside, 0)[8:], 40), told4(around(cells, outside, 20)...))
	b.cells("P6.2", pattern())
	b.say(api.OpResume)
	b.idle(1)
	b.cells("P6.2", pattern())
	b.idle(1)
	b.cells("P6.2", erased(pattern(), 5))
}

func TestOthersWhileBusy(t *testing.T) {
	for _, erases := range []bool{false, true} {
		b := newBus(t, pattern())
		b.next(api.MaxBusy, 5)
		want := programmed(pattern(), outside, 0)
		if erases {
			b.erase(outside)
			want = erased(pattern(), 5)
		} else {
			b.program(outside, 0)
		}
		b.say(api.OpDisable)
		b.status("P6.2: OpDisable while busy", 3, 0)
		b.say(api.OpResume)
		b.say(api.OpStatusPut, 255, 255)
		b.say(withPlace(api.OpErase, 0)...)
		b.say(append(withPlace(api.OpProgram, 0x0c00), 0)...)
		b.status("P6.2: commands while busy", 3, 0)
		b.cells("P6.2: commands while busy", pattern())
		b.idle(api.MaxBusy - (8 + 8 + 24 + 32 + 40) - 1)
		b.status("P6.2: the last clock but one", 3, 0)
		b.cells("P6.2: the last clock but one", pattern())
		b.idle(1)
		b.status("P6.2: done", 0, 0)
		b.cells("P6.2: done", want)
		takes(b, "P6.2: no duration went", 5, true)
	}
}

// A chip that was disabled while its erase was suspended shows that OpEnable is not taken while that goes on.
func TestEnableWhileBusy(t *testing.T) {
	b := blankBus(t)
	b.next(100)
	b.erase(outside)
	b.say(api.OpSuspend)
	b.say(api.OpDisable)
	b.say(api.OpResume)
	b.status("P6.2", api.Busy, 0)
	b.say(api.OpEnable)
	b.status("P6.2: OpEnable while busy", api.Busy, 0)
}

func TestOthersWhileSuspended(t *testing.T) {
	b := newBus(t, pattern())
	b.next(20, 5)
	b.erase(outside)
	b.say(api.OpSuspend)
	b.status("P6.3: suspended", api.Enabled, api.Suspended)
	b.say(api.OpSuspend)
	b.status("P6.3: suspended twice", api.Enabled, api.Suspended)
	b.say(api.OpStatusPut, 255, 255)
	b.say(withPlace(api.OpErase, 0x0c00)...)
	b.say(append(withPlace(api.OpProgram, 0x0c00), 0)...)
	b.idle(500)
	b.status("P6.2: not taken while suspended", api.Enabled, api.Suspended)
	b.wipes("P6.2: not taken while suspended", 0, 0, 0, 0, 0, 1, 0, 0)
	b.say(api.OpDisable)
	b.status("P6.3: OpDisable while suspended", 0, api.Suspended)
	b.say(api.OpEnable)
	b.status("P6.3: OpEnable while suspended", api.Enabled, api.Suspended)
	b.cells("P6.2", pattern())
	b.say(api.OpResume)
	b.status("P6.3: resumed", 3, 0)
	b.idle(11)
	b.status("P6.3: 8 clocks went by ahead of it", 3, 0)
	b.idle(1)
	b.status("P6.3: done", 0, 0)
	b.cells("P6.3: done", erased(pattern(), 5))
	takes(b, "P6.2: no duration went", 5, false)
}

// Suspended and resumed over and over an erase takes as many clocks as without it.
func TestSuspendAndResume(t *testing.T) {
	b := newBus(t, pattern())
	b.next(100)
	b.erase(outside)
	for left := 100; left > 10; left -= 9 {
		b.idle(1)
		b.say(api.OpSuspend)
		b.idle(3)
		b.say(api.OpResume)
		b.status("P6.3", 3, 0)
	}
	b.idle(9)
	b.cells("P6.3", pattern())
	b.status("P6.3", 3, 0)
	b.idle(1)
	b.status("P6.3", 0, 0)
	b.cells("P6.3", erased(pattern(), 5))
}

func TestSuspendNothing(t *testing.T) {
	b := newBus(t, pattern())
	b.say(api.OpSuspend)
	b.status("P6.3: nothing is under way", 0, 0)
	b.say(api.OpResume)
	b.status("P6.3: nothing is suspended", 0, 0)
	b.next(30)
	b.program(outside, 0)
	b.say(api.OpSuspend)
	b.status("P6.3: a program", 3, 0)
	b.idle(21)
	b.status("P6.3: a program", 3, 0)
	b.idle(1)
	b.status("P6.3: a program", 0, 0)
	b.say(api.OpSuspend)
	b.erase(outside)
	b.status("P6.3: an erase behind OpSuspend", 3, 0)
}

// durations are such as the document names.
func durations() []int { return []int{1, 2, 7, 8, 9, 100, api.MaxBusy} }

// Until the last clock nothing of a program or an erase is there; then all of it, and the chip is not enabled any more.
func TestLastClock(t *testing.T) {
	for _, clocks := range durations() {
		for _, selected := range []bool{false, true} {
			for _, erases := range []bool{false, true} {
				b := newBus(t, pattern())
				b.next(clocks)
				want := programmed(pattern(), outside+30, 1, 2, 4, 8)
				if erases {
					b.erase(outside)
					want = erased(pattern(), 5)
				} else {
					b.program(outside+30, 1, 2, 4, 8)
				}
				if selected {
					b.on()
				}
				b.idle(clocks - 1)
				b.status("P6.2: ahead of the last clock", 3, 0)
				b.cells("P6.2: ahead of the last clock", pattern())
				b.idle(1)
				b.status("P6.2: the last clock", 0, 0)
				b.cells("P6.2: the last clock", want)
				b.idle(api.MaxBusy)
				b.cells("P6.2: behind it", want)
			}
		}
	}
}

// Clocks that are none bring nothing on, and are not heard.
func TestClockWrong(t *testing.T) {
	wrong := []int{-1, 16, 17, 31, -16, 256, 1 << 32, math.MinInt, math.MaxInt}
	refuse := func(b bus) {
		t.Helper()
		for _, in := range wrong {
			if out, e := b.c.Clock(in); out != 0 || e != api.ErrChipForm {
				t.Errorf("P6.2: Clock(%d): %d, error %d; wanted 0, error %d", in, out, e, api.ErrChipForm)
			}
		}
	}
	b := blankBus(t)
	b.next(2)
	b.program(outside, 0)
	refuse(b)
	b.status("R5: a wrong clock", 3, 0)
	b.idle(1)
	refuse(b)
	b.status("R5: a wrong clock", 3, 0)
	b.idle(1)
	b.status("P6.2: done", 0, 0)
	b.on()
	for _, in := range one(0, api.OpEnable) {
		refuse(b)
		b.hush("R5", []int{in})
	}
	refuse(b)
	b.off()
	b.status("R5: a wrong clock is no clock more", api.Enabled, 0)
	b.on()
	b.hush("R5", one(0, api.OpId))
	for _, out := range told1(239, 64) {
		refuse(b)
		if got := b.clock(0); got != out {
			t.Fatalf("R5: a wrong clock: it says %d; wanted %d", got, out)
		}
	}
}

// ends begins an erase that ends at the n-th clock from now on.
func ends(b bus, n int) {
	b.t.Helper()
	b.next(n)
	b.erase(0x0e00)
}

// A command whose byte ends at the clock that ends what is under way is taken; one clock earlier it is not.
func TestTakenAtTheLastClock(t *testing.T) {
	for n := 6; n <= 10; n++ {
		free := n <= 8
		for _, k := range tellers() {
			b := newBus(t, strings.Repeat("\x11", api.Size))
			b.put(0, api.Quad)
			ends(b, n)
			heard(b, k, free || k == api.OpStatus || k == api.OpStatus2)
		}
		b := newBus(t, pattern())
		ends(b, n)
		b.say(api.OpEnable)
		b.idle(5)
		if free {
			b.status("P6.3: OpEnable", api.Enabled, 0)
		} else {
			b.status("P6.3: OpEnable", 0, 0)
		}
		b = newBus(t, pattern())
		ends(b, n)
		b.say(api.OpSuspend)
		if free {
			b.status("P6.3: OpSuspend of what has just ended", 0, 0)
		} else {
			b.status("P6.3: OpSuspend", api.Enabled, api.Suspended)
		}
	}
}

// What is judged is the clock with the last bit of the byte, not one behind it.
func TestNotTakenStaysSo(t *testing.T) {
	b := newBus(t, strings.Repeat("\x11", api.Size))
	ends(b, 9)
	b.on()
	b.hush("P6.2", one(0, api.OpRead))
	b.hush("P6.2", one(0, 0, 0, 0))
	b.hush("P6.2: busy when its byte came", again(0, 40))
	b.off()
	ends(b, 9)
	b.on()
	b.hush("P6.2", one(0, api.OpProgram))
	b.off()
	b.idle(9)
	b.status("P6.2", 0, 0)
}

// The status is told as it is when a byte begins: with the clock of its first bit, behind that clock's countdown.
func TestStatusWhileItChanges(t *testing.T) {
	for n := 1; n <= 40; n++ {
		b := blankBus(t)
		ends(b, n)
		b.on()
		b.hush("P6.2", one(0, api.OpStatus))
		for i := range 5 {
			want := 3
			if 9+8*i >= n {
				want = 0
			}
			same(t, "P6.2: OpStatus", b.clocks(again(0, 8)), told1(want))
		}
		b.off()
	}
}

// The second byte of the status may be read while something is under way; it tells nothing of that.
func TestSecondStatus(t *testing.T) {
	b := blankBus(t)
	b.put(0, api.Quad)
	ends(b, 20)
	same(t, "P6.2: OpStatus2", b.ask(one(0, api.OpStatus2), 24), told1(2, 2, 2))
	ends(b, 20)
	b.say(api.OpSuspend)
	same(t, "P6.2: OpStatus2", b.ask(one(0, api.OpStatus2), 24), told1(130, 130, 130))
	same(t, "P6.2: OpStatus", b.ask(one(0, api.OpStatus), 24), told1(2, 2, 2))
}

func TestEnableAndDisable(t *testing.T) {
	b := blankBus(t)
	for range 2 {
		for range 2 {
			b.say(api.OpEnable)
			b.status("P6.3: OpEnable", api.Enabled, 0)
		}
		for range 2 {
			b.say(api.OpDisable)
			b.status("P6.3: OpDisable", 0, 0)
		}
	}
}

func TestPutStatus(t *testing.T) {
	for first := range 256 {
		b := blankBus(t)
		b.put(first, 255-first)
		b.status("P6.3: OpStatusPut", first&4, (255-first)&2)
		b.say(api.OpStatusPut, 255-first, first)
		b.status("P6.3: OpStatusPut that is not enabled", first&4, (255-first)&2)
	}
	for n := range 6 {
		if n == 2 {
			continue
		}
		b := blankBus(t)
		b.say(api.OpEnable)
		b.say(append([]int{api.OpStatusPut}, again(255, n)...)...)
		b.status("P6.3: OpStatusPut of other than two bytes", api.Enabled, 0)
	}
	for _, n := range []int{34, 66} {
		b := blankBus(t)
		b.say(api.OpEnable)
		b.say(append([]int{api.OpStatusPut}, again(255, n)...)...)
		b.status("P6.3: OpStatusPut of very many bytes", api.Enabled, 0)
	}
}

// wholes are commands that change the status of an enabled chip, each with all of its clocks.
func wholes() [][]int {
	return [][]int{
		one(0, api.OpDisable),
		one(0, api.OpStatusPut, 255, 255),
		one(0, withPlace(api.OpErase, outside)...),
		one(0, append(withPlace(api.OpProgram, outside), 0)...),
	}
}

// Of a command that is cut behind any of its clocks nothing comes.
func TestCut(t *testing.T) {
	for i, ins := range wholes() {
		for n := range len(ins) + 1 {
			b := newBus(t, pattern())
			b.say(api.OpEnable)
			b.raw(ins[:n])
			first, second := b.c.Status()
			if came := first != api.Enabled || second != 0; came != (n == len(ins)) {
				t.Fatalf("P6.3: command %d cut behind %d clocks: status %d, %d", i, n, first, second)
			}
			if n < len(ins) {
				b.idle(20)
				b.cells("P6.3: a command that is cut", pattern())
				b.wipes("P6.3: a command that is cut", zeros()...)
				takes(b, "P6.3: a command that is cut", 8, false)
			}
		}
	}
}

func TestCutOthers(t *testing.T) {
	for n := range 9 {
		b := blankBus(t)
		b.raw(one(0, api.OpEnable)[:n])
		first, _ := b.c.Status()
		ends(b, 100)
		b.raw(one(0, api.OpSuspend)[:n])
		_, second := b.c.Status()
		if n < 8 && (first != 0 || second != 0) || n == 8 && (first != api.Enabled || second != api.Suspended) {
			t.Fatalf("P6.3: cut behind %d clocks: %d, %d", n, first, second)
		}
		b = blankBus(t)
		ends(b, 100)
		b.say(api.OpSuspend)
		b.raw(one(0, api.OpResume)[:n])
		if _, second = b.c.Status(); second != 0 && n == 8 || second != api.Suspended && n < 8 {
			t.Fatalf("P6.3: OpResume cut behind %d clocks: %d", n, second)
		}
	}
}

// Of commands without data nothing comes if there is a clock more, or several.
func TestClockMore(t *testing.T) {
	for _, more := range []int{1, 2, 7, 8, 9, 16, 24, 32, 100} {
		for _, in := range []int{0, 15} {
			rest := again(in, more)
			b := newBus(t, pattern())
			b.raw(append(one(0, api.OpEnable), rest...))
			b.status("P6.3: OpEnable, and more", 0, 0)
			b.say(api.OpEnable)
			b.raw(append(one(0, api.OpDisable), rest...))
			b.status("P6.3: OpDisable, and more", api.Enabled, 0)
			b.raw(append(one(0, withPlace(api.OpErase, outside)...), rest...))
			b.status("P6.3: OpErase, and more", api.Enabled, 0)
			b.wipes("P6.3: OpErase, and more", zeros()...)
			ends(b, api.MaxBusy)
			b.raw(append(one(0, api.OpSuspend), rest...))
			b.status("P6.3: OpSuspend, and more", 3, 0)
			b.say(api.OpSuspend)
			b.raw(append(one(0, api.OpResume), rest...))
			b.status("P6.3: OpResume, and more", api.Enabled, api.Suspended)
		}
	}
}

// A data byte that goes to the chip must be whole, however many there are ahead of it.
func TestDataInPart(t *testing.T) {
	for whole := range 4 {
		for more := 1; more < 8; more++ {
			b := newBus(t, pattern())
			b.say(api.OpEnable)
			b.raw(slices.Concat(one(0, withPlace(api.OpProgram, outside)...), one(0, again(0, whole)...), again(0, more)))
			b.status("P6.3: OpProgram with a byte in part", api.Enabled, 0)
			b.raw(slices.Concat(one(0, api.OpStatusPut), one(0, again(255, whole)...), again(1, more)))
			b.status("P6.3: OpStatusPut with a byte in part", api.Enabled, 0)
			b.idle(10)
			b.cells("P6.3: a byte in part", pattern())
		}
	}
}

func TestNotEnabled(t *testing.T) {
	b := newBus(t, pattern())
	b.next(5)
	b.say(append(withPlace(api.OpProgram, outside), 0, 0)...)
	b.say(withPlace(api.OpErase, outside)...)
	b.say(api.OpStatusPut, 255, 255)
	b.status("P6.3: not enabled", 0, 0)
	b.idle(10)
	b.cells("P6.3: not enabled", pattern())
	b.wipes("P6.3: not enabled", zeros()...)
	takes(b, "P6.3: no duration went", 5, false)
}

func TestProtected(t *testing.T) {
	for _, at := range []int{0, 1, 511, 512, 2047, 2048, 2049, 4095, 4096, 4096 + 2047, 4096 + 2048, 1<<24 - 1} {
		for _, protected := range []int{0, api.Protect} {
			for _, k := range []int{api.OpProgram, api.OpErase} {
				b := newBus(t, pattern())
				b.put(protected, 0)
				b.next(5, 6)
				b.say(api.OpEnable)
				want := erased(pattern(), at%4096/512)
				if k == api.OpErase {
					b.say(withPlace(k, at)...)
				} else {
					b.say(append(withPlace(k, at), 0)...)
					want = programmed(pattern(), at%4096, 0)
				}
				if protected != 0 && at%4096 < 2048 {
					b.status("P6.3: protected", protected, 0)
					b.idle(10)
					b.cells("P6.3: protected", pattern())
					b.wipes("P6.3: protected", zeros()...)
					b.program(outside, 255)
					b.idle(4)
					b.status("P6.3: no duration went", protected+3, 0)
					b.idle(1)
					b.status("P6.3: no duration went", protected, 0)
					continue
				}
				b.status("P6.3: not protected", protected+3, 0)
				b.idle(5)
				b.status("P6.3: not protected", protected, 0)
				b.cells("P6.3: not protected", want)
			}
		}
	}
}

func TestErases(t *testing.T) {
	for s := range api.Sectors {
		for _, at := range []int{0, 1, 255, 511} {
			b := newBus(t, pattern())
			b.erase(1<<20 + s*512 + at)
			b.idle(8)
			b.cells("P6.3: OpErase", erased(pattern(), s))
		}
	}
}

// The data go around their page, from any byte of it on, as many as there are.
func TestPrograms(t *testing.T) {
	for _, page := range []int{0, 32, 1024, 2048 - 32, 2048, 4096 - 32} {
		for _, at := range []int{0, 1, 15, 30, 31} {
			for _, n := range []int{1, 2, 31, 32, 33, 34, 63, 64, 65, 100} {
				var data []int
				for i := range n {
					data = append(data, (i*37+n)&255)
				}
				b := newBus(t, strings.Repeat("\xfb", api.Size))
				b.program(page+at, data...)
				b.status("P6.3: OpProgram", 3, 0)
				b.idle(8)
				b.cells("P6.3: OpProgram", programmed(strings.Repeat("\xfb", api.Size), page+at, data...))
			}
		}
	}
}

// By number: from the last byte of the page on to the first one, and the later of two bytes that come to one place.
func TestProgramByNumber(t *testing.T) {
	b := blankBus(t)
	b.program(2048+31, 1, 2, 3)
	b.idle(8)
	want := []byte(cell.Blank())
	want[2048+31], want[2048], want[2049] = 1, 2, 3
	b.cells("P6.3", string(want))
	data := again(0xf0, 32)
	b.program(3000-3000%32+5, append(data, 0x0f)...)
	b.idle(8)
	for i := range 32 {
		want[2976+i] = 0xf0
	}
	want[2976+5] = 0x0f
	b.cells("P6.3", string(want))
}

// What was not programmed again is cleared by no byte of an earlier command.
func TestProgramsOneByOne(t *testing.T) {
	b := blankBus(t)
	b.program(2048, 0, 0, 0)
	b.idle(8)
	b.program(2048+8, 0xf0)
	b.idle(8)
	b.program(2048+8, 0x3f)
	b.idle(8)
	b.say(api.OpEnable)
	b.raw(one(0, append(withPlace(api.OpProgram, 2100), 1, 2, 3)...)[:50])
	b.program(2100, 0x77)
	b.idle(8)
	want := []byte(cell.Blank())
	want[2048], want[2049], want[2050], want[2056], want[2100] = 0, 0, 0, 0x30, 0x77
	b.cells("P6.3: bits only fall", string(want))
}

// readOn wants a read that goes on: its address comes with the first clock.
func readOn(b bus, at, mode int) {
	b.t.Helper()
	cells := numbers(b.c.Cells())
	same(b.t, "P6.2: a read that goes on", b.ask(head(0, api.OpQuadIo, at, mode)[8:], 6), told4(around(cells, at, 3)...))
}

func TestReadGoesOn(t *testing.T) {
	b := newBus(t, pattern())
	b.put(0, api.Quad)
	b.ask(head(0, api.OpQuadIo, 7, api.Goon), 2)
	for _, at := range places() {
		readOn(b, at, api.Goon)
	}
	b.idle(30)
	readOn(b, 99, api.Goon)
	readOn(b, 5, 0)
	same(t, "P6.3: it went on no more", b.ask(one(0, api.OpId), 8), told1(239))
	b.status("P6.3", 0, api.Quad)
}

// Only whole mode bits that are Goon, all eight of them, let a read go on.
func TestModes(t *testing.T) {
	for mode := range 256 {
		b := newBus(t, pattern())
		b.put(0, api.Quad)
		b.ask(head(0, api.OpQuadIo, 7, mode), 4)
		if mode == 160 {
			readOn(b, 10, mode)
			readOn(b, 11, mode)
			continue
		}
		same(t, "P6.3: other mode bits", b.ask(one(0, api.OpId), 8), told1(239))
		b.ask(head(0, api.OpQuadIo, 7, api.Goon), 4)
		readOn(b, 10, mode)
		same(t, "P6.3: other mode bits", b.ask(one(0, api.OpId), 8), told1(239))
	}
}

// A read goes on from the clock on that makes its mode bits whole, be there Dummy clocks and data behind them or not.
func TestReadGoesOnCut(t *testing.T) {
	whole := append(head(0, api.OpQuadIo, 7, api.Goon), again(0, 9)...)
	for n := range len(whole) + 1 {
		b := newBus(t, pattern())
		b.put(0, api.Quad)
		b.on()
		b.clocks(whole[:n])
		b.off()
		if n >= 16 {
			readOn(b, 50, 0)
		}
		same(t, "P6.3: behind it", b.ask(one(0, api.OpId), 8), told1(239))
		b.ask(whole[:20], 0)
		b.on()
		b.clocks(whole[8:max(n, 8)])
		b.off()
		if n >= 16 {
			readOn(b, 50, 0)
		}
		same(t, "P6.3: behind it", b.ask(one(0, api.OpId), 8), told1(239))
	}
}

// Without quad OpQuadIo is not taken, so no read goes on.
func TestNoReadGoesOn(t *testing.T) {
	b := newBus(t, pattern())
	b.raw(append(head(0, api.OpQuadIo, 7, api.Goon), again(0, 9)...))
	same(t, "P6.3: OpQuadIo without quad", b.ask(one(0, api.OpId), 8), told1(239))
	b.put(0, api.Quad)
	b.next(100)
	b.erase(outside)
	b.raw(append(head(0, api.OpQuadIo, 7, api.Goon), again(0, 9)...))
	b.idle(100)
	same(t, "P6.3: OpQuadIo while busy", b.ask(one(0, api.OpId), 8), told1(239))
	b.raw(one(0, api.OpQuadOut, 0, 0, 7, api.Goon))
	same(t, "P6.3: OpQuadOut", b.ask(one(0, api.OpId), 8), told1(239))
}

func TestSelectTwice(t *testing.T) {
	b := newBus(t, pattern())
	if e := b.c.Deselect(); e != api.ErrChipForm {
		t.Errorf("P6.3: Deselect of a new chip: error %d; wanted %d", e, api.ErrChipForm)
	}
	b.on()
	for _, in := range one(0, api.OpEnable) {
		if e := b.c.Select(); e != api.ErrChipForm {
			t.Errorf("P6.3: Select twice: error %d; wanted %d", e, api.ErrChipForm)
		}
		b.clock(in)
	}
	b.off()
	b.status("R5: a wrong Select begins nothing", api.Enabled, 0)
	for range 2 {
		if e := b.c.Deselect(); e != api.ErrChipForm {
			t.Errorf("P6.3: Deselect twice: error %d; wanted %d", e, api.ErrChipForm)
		}
	}
	b.status("R5: a wrong Deselect ends nothing", api.Enabled, 0)
	b.put(0, api.Quad)
	b.ask(head(0, api.OpQuadIo, 7, api.Goon), 4)
	b.c.Deselect()
	readOn(b, 20, api.Goon)
}

// A chip that is not selected hears nothing, and says nothing.
func TestNotSelected(t *testing.T) {
	b := newBus(t, pattern())
	b.hush("P6.2: not selected", one(0, api.OpEnable))
	b.hush("P6.2: not selected", append(one(0, api.OpId), again(0, 40)...))
	b.status("P6.2: not selected", 0, 0)
	b.on()
	b.hush("P6.2", one(0, api.OpId))
	b.off()
	b.hush("P6.2: not selected any more", again(0, 40))
}

// masks are of every kind.
func masks() []string {
	long := strings.Repeat("\x0f\xf0\x55", 300)
	return []string{"", "\x00", "\xff", "\x0f", "\xaa\x55", "\x01\x02\x04", "\xff\x00", strings.Repeat("\x3c", 32), strings.Repeat("\x00", 31) + "\xff", strings.Repeat("\x00", 512) + "\xff", long}
}

func TestLossOfAnErase(t *testing.T) {
	for _, mask := range masks() {
		for gone := range 11 {
			b := newBus(t, pattern())
			b.put(api.Protect, api.Quad)
			b.next(10, 3)
			b.erase(outside + 77)
			b.idle(gone)
			want, _ := cell.EraseCut(pattern(), 5, mask)
			if gone == 10 {
				want = erased(pattern(), 5)
			}
			if e := b.c.Loss(mask); e != api.OK {
				t.Fatalf("P6.4: error %d", e)
			}
			b.wipes("P6.4", 0, 0, 0, 0, 0, 1, 0, 0)
			fresh(b, "P6.4: an erase", want, api.Protect, api.Quad)
		}
	}
}

// An erase that was suspended behind any of its clocks is cut like one that goes on; so is one that was resumed.
func TestLossWhileSuspended(t *testing.T) {
	for _, mask := range masks() {
		for gone := range 12 {
			for _, resumed := range []bool{false, true} {
				b := newBus(t, pattern())
				b.next(20)
				b.erase(outside)
				b.idle(gone)
				b.say(api.OpSuspend)
				b.idle(50)
				b.status("P6.2: suspended", api.Enabled, api.Suspended)
				b.cells("P6.2: suspended", pattern())
				if resumed {
					b.say(api.OpResume)
				}
				if e := b.c.Loss(mask); e != api.OK {
					t.Fatalf("P6.4: error %d", e)
				}
				want, _ := cell.EraseCut(pattern(), 5, mask)
				b.wipes("P6.4", 0, 0, 0, 0, 0, 1, 0, 0)
				fresh(b, "P6.4: suspended", want, 0, 0)
			}
		}
	}
}

func TestLossOfAProgram(t *testing.T) {
	for _, mask := range masks() {
		for gone := range 9 {
			b := newBus(t, pattern())
			b.put(api.Protect, api.Quad)
			b.program(outside+30, 1, 2, 4, 8)
			b.idle(gone)
			page := strings.Repeat("\xff", 32)
			page = "\x04\x08" + page[2:30] + "\x01\x02"
			want, _ := cell.ProgramCut(pattern(), outside, page, mask)
			if gone == 8 {
				want = programmed(pattern(), outside, 4, 8)
				want = programmed(want, outside+30, 1, 2)
			}
			if e := b.c.Loss(mask); e != api.OK {
				t.Fatalf("P6.4: error %d", e)
			}
			fresh(b, "P6.4: a program", want, api.Protect, api.Quad)
		}
	}
}

// Behind a loss nothing is there of a command, of a read that goes on, of being enabled, of durations.
func TestLossOfAllElse(t *testing.T) {
	cmd := one(0, append(withPlace(api.OpProgram, outside), 0)...)
	for n := range len(cmd) + 1 {
		b := newBus(t, pattern())
		b.put(0, api.Quad)
		b.next(3, 4, 5)
		b.say(api.OpEnable)
		b.on()
		b.hush("P6.2", cmd[:n])
		if e := b.c.Loss("\xff"); e != api.OK {
			t.Fatalf("P6.4: error %d", e)
		}
		fresh(b, "P6.4: in a command", pattern(), 0, api.Quad)
	}
	b := newBus(t, pattern())
	b.put(0, api.Quad)
	b.ask(head(0, api.OpQuadIo, 7, api.Goon), 4)
	b.c.Loss("\xff")
	fresh(b, "P6.4: a read that goes on", pattern(), 0, api.Quad)
	b.ask(head(0, api.OpQuadIo, 7, api.Goon), 4)
	b.on()
	b.clocks(head(0, api.OpQuadIo, 7, api.Goon)[8:])
	b.c.Loss("\xff")
	fresh(b, "P6.4: in a read that goes on", pattern(), 0, api.Quad)
	b.c.Loss("")
	b.c.Loss("\x0f")
	fresh(b, "P6.4: a loss behind a loss", pattern(), 0, api.Quad)
}

// A chip goes on behind a loss like a new one with its cells and its two bits.
func TestBehindALoss(t *testing.T) {
	b := newBus(t, pattern())
	b.put(api.Protect, api.Quad)
	b.next(100)
	b.erase(outside)
	b.c.Loss("")
	b.erase(inside)
	b.status("P6.4: protected", api.Protect, api.Quad)
	b.erase(outside)
	b.idle(8)
	b.cells("P6.4", erased(pattern(), 5))
	b.wipes("P6.4", 0, 0, 0, 0, 0, 2, 0, 0)
	cells := numbers(erased(pattern(), 5))
	same(t, "P6.4: quad", b.ask(head(0, api.OpQuadOut, 2558, 0), 8), told4(around(cells, 2558, 4)...))
	b.put(0, 0)
	b.status("P6.4", 0, 0)
}

func TestNil(t *testing.T) {
	var c *Chip
	for name, e := range map[string]api.Errno{"Select": c.Select(), "Deselect": c.Deselect(), "Next": c.Next([]int{0}), "Loss": c.Loss("x")} {
		if e != api.ErrNil {
			t.Errorf("R3: %s: error %d; wanted %d", name, e, api.ErrNil)
		}
	}
	for _, in := range []int{-1, 0, 15, 16} {
		if out, e := c.Clock(in); out != 0 || e != api.ErrNil {
			t.Errorf("R3: Clock(%d): %d, error %d; wanted 0, error %d", in, out, e, api.ErrNil)
		}
	}
	if first, second := c.Status(); first != 0 || second != 0 {
		t.Errorf("R3: Status: %d, %d", first, second)
	}
	if c.Cells() != "" || len(c.Wipes()) != 0 {
		t.Errorf("R3: Cells: %d bytes, Wipes: %v", len(c.Cells()), c.Wipes())
	}
}

// A chip that New did not make panics at nothing (R1), whatever is said to it.
func TestNoCells(t *testing.T) {
	b := bus{t, new(Chip)}
	b.put(0, api.Quad)
	for _, k := range all() {
		b.on()
		b.clocks(append(head(0, k, outside, 0), again(0, 40)...))
		b.off()
	}
	b.erase(outside)
	b.idle(8)
	b.program(outside, 0)
	b.c.Loss("\xff")
}

func TestMemory(t *testing.T) {
	b := blankBus(t)
	room := []int{3, 4, 77, 78}
	busy := room[:2]
	if e := b.c.Next(busy); e != api.OK {
		t.Fatalf("P6.1: error %d", e)
	}
	busy[0], busy[1] = 100, 0
	takes(b, "R4: a list that was handed in", 3, false)
	takes(b, "R4: a list that was handed in", 4, true)
	if !slices.Equal(room, []int{100, 0, 77, 78}) {
		t.Errorf("R4: a list that was handed in is %v", room)
	}
	wipes, more := b.c.Wipes(), b.c.Wipes()
	wipes[5] = 9
	wipes = append(wipes, 1)
	if more[5] != 1 {
		t.Error("R4: two answers share memory")
	}
	b.wipes("R4: a list that was answered", 0, 0, 0, 0, 0, 1, 0, 0)
	b.erase(outside)
	if more[5] != 1 {
		t.Error("R4: an answer changes")
	}
}

// Two chips of the same cells have nothing in common.
func TestTwoChips(t *testing.T) {
	cells := pattern()
	b, other := newBus(t, cells), newBus(t, cells)
	b.put(api.Protect, api.Quad)
	b.erase(outside)
	b.idle(8)
	other.status("R5", 0, 0)
	other.wipes("R5", zeros()...)
	fresh(other, "R5: another chip", cells, 0, 0)
}

// Each goroutine has chips of its own.
func TestManyAtOnce(t *testing.T) {
	var group sync.WaitGroup
	for range 8 {
		group.Go(func() {
			c, e := New(pattern())
			if e != api.OK {
				t.Errorf("R5: error %d", e)
				return
			}
			c.Select()
			var outs []int
			for _, in := range append(head(0, api.OpSfdp, 0, 0), again(0, 8)...) {
				out, _ := c.Clock(in)
				outs = append(outs, out)
			}
			if !slices.Equal(outs[40:], told1('S')) {
				t.Errorf("R5: it says %v", outs[40:])
			}
		})
	}
	group.Wait()
}
