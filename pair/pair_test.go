package pair

import (
	"strings"
	"sync"
	"testing"

	"lichen/api"
	"lichen/cell"
)

// ramp makes n bytes that rise by step from first on.
func ramp(n, first, step int) string {
	b := make([]byte, n)
	for i := range b {
		b[i] = byte(first + i*step)
	}
	return string(b)
}

// turned makes the bytes with all bits turned, by what is left to 255.
func turned(s string) string {
	b := make([]byte, len(s))
	for i := range b {
		b[i] = 255 - s[i]
	}
	return string(b)
}

// halves are texts of just Half bytes; over them every byte value stands somewhere.
func halves() []string {
	list := []string{
		strings.Repeat("\x00", api.Half),
		strings.Repeat("\xff", api.Half),
		strings.Repeat("\x00\xff", api.Half/2),
		strings.Repeat("\x0f", api.Half),
		"\x00" + strings.Repeat("\xff", api.Half-1),
		strings.Repeat("\xff", api.Half-1) + "\x00",
		strings.Repeat("é", api.Half/2),
		ramp(api.Half, 5, 37),
	}
	for first := 0; first < 256; first += api.Half {
		list = append(list, ramp(api.Half, first, 1))
	}
	return list
}

// masks let nothing, a part, or all through.
func masks() []string {
	return []string{"", "\x00", "\x01", "\x80", "\x7f", "\xfe", "\xff", "\xff\xff\xff", "\x00\xff", "\xff\x00", "\x55\xaa\x0f",
		ramp(255, 0, 1),
		strings.Repeat("\xff", api.Half) + strings.Repeat("\x00", api.Half),
		strings.Repeat("\x00", api.Half) + strings.Repeat("\xff", api.Half),
		strings.Repeat("\xff", api.Slot-1) + "\x7f",
		"\xfe" + strings.Repeat("\xff", api.Slot-1),
	}
}

// turn turns one bit of a text.
func turn(s string, bit int) string {
	b := []byte(s)
	b[bit/8] ^= 1 << (bit % 8)
	return string(b)
}

// check holds an answer without an error against what is wanted.
func check(t *testing.T, what, got string, e api.Errno, want string) {
	t.Helper()
	if e != api.OK || got != want {
		t.Errorf("%s: %q, error %d; wanted %q", what, got, e, want)
	}
}

// refuse wants the form error, and beside it the empty text.
func refuse(t *testing.T, what, got string, e api.Errno) {
	t.Helper()
	if e != api.ErrPairForm || got != "" {
		t.Errorf("%s: %q, error %d; wanted none, error %d", what, got, e, api.ErrPairForm)
	}
}

// checkPart wants of a slot that was left by a cut just what was whole, or a refusal.
func checkPart(t *testing.T, what, left, slot string) {
	t.Helper()
	got, e := Get(left)
	if left == slot {
		check(t, what, got, e, slot[:api.Half])
		return
	}
	refuse(t, what, got, e)
}

func TestPut(t *testing.T) {
	for _, s := range halves() {
		got, e := Put(s)
		check(t, "P2.1: Put", got, e, s+turned(s))
	}
}

func TestPutByHand(t *testing.T) {
	got, e := Put("\x00\xff\x01\x80\x5a" + strings.Repeat("a", 27))
	check(t, "P2.1: Put", got, e, "\x00\xff\x01\x80\x5a"+strings.Repeat("a", 27)+"\xff\x00\xfe\x7f\xa5"+strings.Repeat("\x9e", 27))
}

func TestGet(t *testing.T) {
	for _, s := range halves() {
		got, e := Get(s + turned(s))
		check(t, "P2.1: Get", got, e, s)
	}
}

func TestPutRefuses(t *testing.T) {
	for _, n := range []int{0, 1, api.Half - 1, api.Half + 1, api.Slot, api.Size} {
		got, e := Put(ramp(n, 3, 7))
		refuse(t, "P2.1: Put of a wrong length", got, e)
	}
	// Bytes are counted, not runes.
	got, e := Put(strings.Repeat("é", api.Half))
	refuse(t, "P2.1: Put of Half runes of two bytes", got, e)
}

func TestGetRefusesLengths(t *testing.T) {
	s := ramp(api.Half, 3, 7)
	slot := s + turned(s)
	for _, wrong := range []string{"", "x", s[1:], s, s + "x", slot[1:], slot[:api.Slot-1], slot + "x", "x" + slot, slot + slot, strings.Repeat("\x00", 31) + strings.Repeat("\xff", 31), strings.Repeat("\x00", 33) + strings.Repeat("\xff", 33)} {
		got, e := Get(wrong)
		refuse(t, "P2.1: Get of a wrong length", got, e)
	}
}

func TestGetRefusesBytes(t *testing.T) {
	for _, s := range halves() {
		got, e := Get(s + s)
		refuse(t, "P2.1: Get of a half twice", got, e)
	}
	for _, wrong := range []string{strings.Repeat("\xff", api.Slot), strings.Repeat("\x00", api.Slot), strings.Repeat("\x00\xff", api.Half), ramp(api.Slot, 0, 1)} {
		got, e := Get(wrong)
		refuse(t, "P2.1: Get of what is no slot", got, e)
	}
}

func TestGetRefusesOneTurnedBit(t *testing.T) {
	for _, s := range halves() {
		slot := s + turned(s)
		for bit := range api.Slot * 8 {
			got, e := Get(turn(slot, bit))
			refuse(t, "P2.1: Get of a slot with one bit turned", got, e)
		}
	}
}

// TestGetTellsOtherSlot turns the same bit in both halves: that is another slot, and a whole one.
func TestGetTellsOtherSlot(t *testing.T) {
	s := ramp(api.Half, 9, 11)
	for bit := range api.Half * 8 {
		got, e := Get(turn(turn(s+turned(s), bit), api.Half*8+bit))
		check(t, "P2.1: Get of a bit turned in both halves", got, e, turn(s, bit))
	}
}

// places are where slots may stand: first, within, and last of the cells.
func places() []int {
	return []int{0, api.Slot * 3, api.SectorSize, api.Size - api.Slot}
}

func TestProgrammedInPart(t *testing.T) {
	for _, s := range halves() {
		slot, _ := Put(s)
		for _, at := range places() {
			for _, mask := range masks() {
				cells, e := cell.ProgramCut(cell.Blank(), at, slot, mask)
				if e != api.OK {
					t.Fatalf("P2.2: ProgramCut: error %d", e)
				}
				checkPart(t, "P2.2: programmed in part", cells[at:at+api.Slot], slot)
			}
		}
	}
}

// TestProgrammedByPages goes byte by byte: all that is done up to some byte, nothing behind it.
func TestProgrammedByPages(t *testing.T) {
	for _, s := range halves() {
		slot, _ := Put(s)
		for n := range api.Slot + 1 {
			cells, e := cell.Program(cell.Blank(), api.Slot, slot[:n])
			if e != api.OK {
				t.Fatalf("P2.2: Program: error %d", e)
			}
			checkPart(t, "P2.2: programmed up to a byte", cells[api.Slot:2*api.Slot], slot)
		}
	}
}

func TestErasedInPart(t *testing.T) {
	for _, s := range halves() {
		slot, _ := Put(s)
		for _, at := range places() {
			cells, e := cell.Program(cell.Blank(), at, slot)
			if e != api.OK {
				t.Fatalf("P2.2: Program: error %d", e)
			}
			for _, mask := range masks() {
				left, e := cell.EraseCut(cells, at/api.SectorSize, mask)
				if e != api.OK {
					t.Fatalf("P2.2: EraseCut: error %d", e)
				}
				checkPart(t, "P2.2: erased in part", left[at:at+api.Slot], slot)
			}
		}
	}
}

// TestCutOnceThenAgain cuts a program, and then the erase that is to clear it away.
func TestCutOnceThenAgain(t *testing.T) {
	for _, s := range halves() {
		slot, _ := Put(s)
		for _, mask := range masks() {
			cells, _ := cell.ProgramCut(cell.Blank(), 0, slot, mask)
			for _, second := range masks() {
				left, e := cell.EraseCut(cells, 0, second)
				if e != api.OK {
					t.Fatalf("P2.2: EraseCut: error %d", e)
				}
				checkPart(t, "P2.2: programmed in part, then erased in part", left[:api.Slot], slot)
			}
		}
	}
}

// TestManyAtOnce calls from several goroutines at one time (R5), each with the same answer.
func TestManyAtOnce(t *testing.T) {
	var group sync.WaitGroup
	for range 8 {
		group.Go(func() {
			for _, s := range halves() {
				slot, e := Put(s)
				check(t, "R5: Put", slot, e, s+turned(s))
				got, e := Get(slot)
				check(t, "R5: Get", got, e, s)
			}
		})
	}
	group.Wait()
}
