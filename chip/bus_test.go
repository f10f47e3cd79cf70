package chip

import (
	"slices"
	"testing"

	"lichen/api"
	"lichen/cell"
)

// What the tests speak of, written out so that they hang on the document alone.
const (
	testSilent = 15
	testUsual  = 8
	outside    = 0x0a00 // a place in sector 5, which is never protected
	inside     = 0x0200 // a place in sector 1, which may be protected
)

// bus drives a chip.
type bus struct {
	t *testing.T
	c *Chip
}

// newBus makes a chip with some cells, and drives it.
func newBus(t *testing.T, cells string) bus {
	t.Helper()
	c, e := New(cells)
	if e != api.OK || c == nil {
		t.Fatalf("P6.1: New: error %d", e)
	}
	return bus{t, c}
}

// pattern makes cells no two neighbouring pages or sectors of which are alike.
func pattern() string {
	cells := make([]byte, api.Size)
	for i := range cells {
		cells[i] = byte(i*7 + i/256*11 + 5)
	}
	return string(cells)
}

// one is what a command's side says on the lowest lane: the bits of bytes, the highest first. The other lanes have the noise.
func one(noise int, xs ...int) []int {
	var ins []int
	for _, x := range xs {
		for i := 7; i >= 0; i-- {
			ins = append(ins, x>>i&1|noise&14)
		}
	}
	return ins
}

// four is what a command's side says on four lanes.
func four(xs ...int) []int {
	var ins []int
	for _, x := range xs {
		ins = append(ins, x>>4&15, x&15)
	}
	return ins
}

// again is a number over and over.
func again(x, n int) []int {
	return slices.Repeat([]int{x}, n)
}

// told1 is what a chip says of bytes on one lane: the second lowest has the bit, all others are 1.
func told1(xs ...int) []int {
	var outs []int
	for _, x := range xs {
		for i := 7; i >= 0; i-- {
			if x>>i&1 == 1 {
				outs = append(outs, 15)
			} else {
				outs = append(outs, 13)
			}
		}
	}
	return outs
}

// told4 is what a chip says of bytes on four lanes.
func told4(xs ...int) []int {
	return four(xs...)
}

// place is an address's three bytes.
func place(at int) []int {
	return []int{at >> 16 & 255, at >> 8 & 255, at & 255}
}

// withPlace is a command's byte and its address.
func withPlace(b, at int) []int {
	return append([]int{b}, place(at)...)
}

// head is all clocks of a command ahead of its data.
func head(noise, b, at, mode int) []int {
	switch b {
	case api.OpProgram, api.OpRead, api.OpErase:
		return one(noise, withPlace(b, at)...)
	case api.OpSfdp, api.OpQuadOut:
		return append(one(noise, withPlace(b, at)...), again(noise&15, 8)...)
	case api.OpQuadIo:
		return slices.Concat(one(noise, b), four(place(at)...), four(mode), again(noise&15, 4))
	}
	return one(noise, b)
}

// clock is one clock, without an error.
func (b bus) clock(in int) int {
	b.t.Helper()
	out, e := b.c.Clock(in)
	if e != api.OK {
		b.t.Fatalf("P6.2: Clock(%d): error %d", in, e)
	}
	return out
}

// clocks are several clocks; what the chip says.
func (b bus) clocks(ins []int) []int {
	b.t.Helper()
	outs := make([]int, 0, len(ins))
	for _, in := range ins {
		outs = append(outs, b.clock(in))
	}
	return outs
}

// hush wants the chip to say nothing.
func (b bus) hush(what string, ins []int) {
	b.t.Helper()
	for i, out := range b.clocks(ins) {
		if out != testSilent {
			b.t.Fatalf("%s: clock %d: it says %d", what, i, out)
		}
	}
}

// on selects.
func (b bus) on() {
	b.t.Helper()
	if e := b.c.Select(); e != api.OK {
		b.t.Fatalf("P6.3: Select: error %d", e)
	}
}

// off deselects.
func (b bus) off() {
	b.t.Helper()
	if e := b.c.Deselect(); e != api.OK {
		b.t.Fatalf("P6.3: Deselect: error %d", e)
	}
}

// raw is a command of some clocks at which the chip says nothing.
func (b bus) raw(ins []int) {
	b.t.Helper()
	b.on()
	b.hush("P6.2", ins)
	b.off()
}

// say is a command of some bytes on one lane.
func (b bus) say(xs ...int) {
	b.t.Helper()
	b.raw(one(14, xs...))
}

// ask is a command's head, and what the chip says in n clocks behind it.
func (b bus) ask(head []int, n int) []int {
	b.t.Helper()
	b.on()
	b.hush("P6.2", head)
	outs := b.clocks(again(testSilent, n))
	b.off()
	return outs
}

// next says which durations come.
func (b bus) next(busy ...int) {
	b.t.Helper()
	if e := b.c.Next(busy); e != api.OK {
		b.t.Fatalf("P6.1: Next(%v): error %d", busy, e)
	}
}

// put puts the two bits that stay.
func (b bus) put(first, second int) {
	b.t.Helper()
	b.say(api.OpEnable)
	b.say(api.OpStatusPut, first, second)
}

// erase begins an erase.
func (b bus) erase(at int) {
	b.t.Helper()
	b.say(api.OpEnable)
	b.say(withPlace(api.OpErase, at)...)
}

// program begins a program.
func (b bus) program(at int, data ...int) {
	b.t.Helper()
	b.say(api.OpEnable)
	b.say(append(withPlace(api.OpProgram, at), data...)...)
}

// idle lets clocks pass.
func (b bus) idle(n int) {
	b.t.Helper()
	b.hush("P6.2", again(testSilent, n))
}

// status wants both bytes.
func (b bus) status(what string, first, second int) {
	b.t.Helper()
	if x, y := b.c.Status(); x != first || y != second {
		b.t.Fatalf("%s: status %d, %d; wanted %d, %d", what, x, y, first, second)
	}
}

// cells wants the cells to be so.
func (b bus) cells(what string, want string) {
	b.t.Helper()
	got := b.c.Cells()
	if got == want {
		return
	}
	if len(got) != len(want) {
		b.t.Fatalf("%s: %d cells", what, len(got))
	}
	for i := range len(want) {
		if got[i] != want[i] {
			b.t.Fatalf("%s: cell %d is %d; wanted %d", what, i, got[i], want[i])
		}
	}
}

// wipes wants the numbers of erases that were begun.
func (b bus) wipes(what string, want ...int) {
	b.t.Helper()
	if got := b.c.Wipes(); !slices.Equal(got, want) {
		b.t.Fatalf("%s: Wipes: %v; wanted %v", what, got, want)
	}
}

// same wants what was said.
func same(t *testing.T, what string, got, want []int) {
	t.Helper()
	if !slices.Equal(got, want) {
		t.Fatalf("%s: it says\n%v; wanted\n%v", what, got, want)
	}
}

// erased is cells of which a sector is erased.
func erased(cells string, sector int) string {
	b := []byte(cells)
	for i := range api.SectorSize {
		b[sector*api.SectorSize+i] = 255
	}
	return string(b)
}

// programmed is cells to which data bytes came, from at on around its page: of two that come to one place the later one.
func programmed(cells string, at int, data ...int) string {
	page := again(255, api.Page)
	for i, x := range data {
		page[(at+i)%api.Page] = x
	}
	b := []byte(cells)
	for i, x := range page {
		b[at-at%api.Page+i] &= byte(x)
	}
	return string(b)
}

// blankBus drives a chip none of whose bits has fallen.
func blankBus(t *testing.T) bus {
	t.Helper()
	return newBus(t, cell.Blank())
}

// all are the bytes of the commands that the document names.
func all() []int {
	return []int{1, 2, 3, 4, 5, 6, 32, 53, 90, 107, 117, 122, 159, 235}
}
