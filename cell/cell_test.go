package cell

import (
	"math"
	"strings"
	"sync"
	"testing"

	"lichen/api"
)

// pattern makes cells in which every byte value stands, in another order in each sector.
func pattern() string {
	b := make([]byte, api.Size)
	for i := range b {
		b[i] = byte(i*37 + i/256*11)
	}
	return string(b)
}

// ramp makes n bytes that rise by step from first on.
func ramp(n, first, step int) string {
	b := make([]byte, n)
	for i := range b {
		b[i] = byte(first + i*step)
	}
	return string(b)
}

// allows asks, bit by bit, whether the mask lets a bit of the i-th byte through.
func allows(mask string, i, bit int) bool {
	return len(mask) > 0 && mask[i%len(mask)]>>bit&1 == 1
}

// wantProgram says the promise bit by bit.
func wantProgram(a string, at int, data, mask string) string {
	out := []byte(a)
	for i := range len(data) {
		for bit := range 8 {
			falls := a[at+i]>>bit&1 == 1 && data[i]>>bit&1 == 0
			if falls && allows(mask, i, bit) {
				out[at+i] -= 1 << bit
			}
		}
	}
	return string(out)
}

// wantErase says the promise bit by bit.
func wantErase(a string, sector int, mask string) string {
	out := []byte(a)
	for i := range api.SectorSize {
		k := sector*api.SectorSize + i
		for bit := range 8 {
			rises := a[k]>>bit&1 == 0
			if rises && allows(mask, i, bit) {
				out[k] += 1 << bit
			}
		}
	}
	return string(out)
}

// firstDifference tells where two texts part, or -1.
func firstDifference(a, b string) int {
	for i := range min(len(a), len(b)) {
		if a[i] != b[i] {
			return i
		}
	}
	if len(a) != len(b) {
		return min(len(a), len(b))
	}
	return -1
}

// check holds an answer without an error against what is wanted.
func check(t *testing.T, what, got string, e api.Errno, want string) {
	t.Helper()
	if e != api.OK {
		t.Errorf("%s: error %d", what, e)
		return
	}
	if k := firstDifference(got, want); k >= 0 {
		t.Errorf("%s: %d bytes, wanted %d; they part at byte %d", what, len(got), len(want), k)
	}
}

// refuse wants the form error, and beside it the empty text.
func refuse(t *testing.T, what, got string, e api.Errno) {
	t.Helper()
	if e != api.ErrCellForm || got != "" {
		t.Errorf("%s: %d bytes, error %d; wanted none, error %d", what, len(got), e, api.ErrCellForm)
	}
}

// place is somewhere data are programmed.
type place struct {
	name string
	at   int
	data string
}

func places() []place {
	return []place{
		{"no data at 0", 0, ""},
		{"no data at Size", api.Size, ""},
		{"a byte at 0", 0, "\x5a"},
		{"a byte 0 at 0", 0, "\x00"},
		{"a byte 255 at 0", 0, "\xff"},
		{"the last byte", api.Size - 1, "\x0f"},
		{"a page that ends just at Size", api.Size - api.Page, ramp(api.Page, 3, 29)},
		{"over a sector's end", api.SectorSize - 5, ramp(11, 200, 41)},
		{"all bytes over one place after the other", 1000, ramp(256, 0, 1)},
		{"all cells", 0, ramp(api.Size, 7, 13)},
	}
}

// masks are empty, shorter than data, and longer than all of the cells.
func masks() []string {
	return []string{"", "\x00", "\x01", "\x80", "\xff", "\xff\xff\xff", "\x00\xff", "\x55\xaa\x0f", "\xf0\x00\x3c\xff\x81", ramp(255, 0, 1), ramp(api.Size+3, 5, 7)}
}

func TestMay(t *testing.T) {
	for _, c := range []struct {
		n    int
		want bool
	}{{0, false}, {1, false}, {api.SectorSize, false}, {api.Size - 1, false}, {api.Size, true}, {api.Size + 1, false}, {2 * api.Size, false}} {
		if got := May(ramp(c.n, 0, 1)); got != c.want {
			t.Errorf("P1.1: May of %d bytes: %t", c.n, got)
		}
	}
	// Bytes are counted, not runes.
	if !May(strings.Repeat("é", api.Size/2)) || May(strings.Repeat("é", api.Size)) {
		t.Error("P1.1: May of runes of two bytes")
	}
}

func TestBlank(t *testing.T) {
	a := Blank()
	check(t, "P1.1: Blank", a, api.OK, strings.Repeat("\xff", api.Size))
	if !May(a) {
		t.Error("P1.1: Blank may not be")
	}
}

func TestProgram(t *testing.T) {
	for _, a := range []string{Blank(), pattern(), strings.Repeat("\x00", api.Size)} {
		for _, p := range places() {
			want := []byte(a)
			for i := range len(p.data) {
				want[p.at+i] = a[p.at+i] & p.data[i]
			}
			got, e := Program(a, p.at, p.data)
			check(t, "P1.1: Program: "+p.name, got, e, string(want))
		}
	}
}

func TestProgramByHand(t *testing.T) {
	a := "\xf0\x3c\xff" + Blank()[3:]
	got, e := Program(a, 1, "\x0f\x81")
	check(t, "P1.1: Program", got, e, "\xf0\x0c\x81"+Blank()[3:])
	got, e = ProgramCut(a, 1, "\x0f\x81", "\x10\x06")
	check(t, "P1.2: ProgramCut", got, e, "\xf0\x2c\xf9"+Blank()[3:])
}

func TestErase(t *testing.T) {
	for _, a := range []string{Blank(), pattern(), strings.Repeat("\x00", api.Size)} {
		for sector := range api.Sectors {
			start, end := sector*api.SectorSize, (sector+1)*api.SectorSize
			want := a[:start] + strings.Repeat("\xff", api.SectorSize) + a[end:]
			got, e := Erase(a, sector)
			check(t, "P1.1: Erase", got, e, want)
		}
	}
}

func TestEraseByHand(t *testing.T) {
	rest := strings.Repeat("\x00", api.Size-3)
	got, e := EraseCut("\x10\x03\x00"+rest, 0, "\x30\x81")
	want := "\x30\x83\x30" + strings.Repeat("\x81\x30", 254) + "\x81" + strings.Repeat("\x00", api.Size-api.SectorSize)
	check(t, "P1.2: EraseCut", got, e, want)
}

func TestProgramCut(t *testing.T) {
	for _, a := range []string{Blank(), pattern()} {
		for _, p := range places() {
			for _, mask := range masks() {
				got, e := ProgramCut(a, p.at, p.data, mask)
				check(t, "P1.2: ProgramCut: "+p.name, got, e, wantProgram(a, p.at, p.data, mask))
			}
		}
	}
}

func TestEraseCut(t *testing.T) {
	for _, a := range []string{pattern(), strings.Repeat("\x00", api.Size)} {
		for sector := range api.Sectors {
			for _, mask := range masks() {
				got, e := EraseCut(a, sector, mask)
				check(t, "P1.2: EraseCut", got, e, wantErase(a, sector, mask))
			}
		}
	}
}

func TestEmptyMaskDoesNothing(t *testing.T) {
	a := pattern()
	got, e := ProgramCut(a, 100, strings.Repeat("\x00", 300), "")
	check(t, "P1.2: ProgramCut of an empty mask", got, e, a)
	for sector := range api.Sectors {
		got, e = EraseCut(a, sector, "")
		check(t, "P1.2: EraseCut of an empty mask", got, e, a)
	}
}

func TestMaskBeginsAtData(t *testing.T) {
	a := Blank()
	got, e := ProgramCut(a, 101, "\x00\x00\x00", "\x01\x02")
	check(t, "P1.2: ProgramCut at an odd place", got, e, a[:101]+"\xfe\xfd\xfe"+a[104:])
	zero := strings.Repeat("\x00", api.Size)
	sector := strings.Repeat("\x01\x02\x04", 170) + "\x01\x02"
	got, e = EraseCut(zero, 1, "\x01\x02\x04")
	check(t, "P1.2: EraseCut of the second sector", got, e, zero[:512]+sector+zero[1024:])
}

func TestMaskOf255IsWhole(t *testing.T) {
	a := pattern()
	for _, n := range []int{1, 2, 7, api.Page, api.SectorSize, api.SectorSize + 1, api.Size + 1} {
		mask := strings.Repeat("\xff", n)
		for _, p := range places() {
			want, e := Program(a, p.at, p.data)
			check(t, "P1.3: Program: "+p.name, want, e, wantProgram(a, p.at, p.data, "\xff"))
			got, e := ProgramCut(a, p.at, p.data, mask)
			check(t, "P1.3: ProgramCut: "+p.name, got, e, want)
		}
		for sector := range api.Sectors {
			want, e := Erase(a, sector)
			check(t, "P1.3: Erase", want, e, wantErase(a, sector, "\xff"))
			got, e := EraseCut(a, sector, mask)
			check(t, "P1.3: EraseCut", got, e, want)
		}
	}
}

// wrongCells are texts that may not be cells.
func wrongCells() []string {
	a := pattern()
	return []string{"", "x", a[1:], a + "x", a + a}
}

func TestProgramRefuses(t *testing.T) {
	a := pattern()
	for _, p := range []place{
		{"at -1, no data", -1, ""},
		{"at -1", -1, "x"},
		{"at the least", math.MinInt, "x"},
		{"at the least, no data", math.MinInt, ""},
		{"at Size", api.Size, "x"},
		{"beyond Size, no data", api.Size + 1, ""},
		{"a byte too many", api.Size - 1, "xy"},
		{"a page over the end", api.Size - api.Page + 1, ramp(api.Page, 0, 1)},
		{"more than all cells", 0, ramp(api.Size+1, 0, 1)},
		{"at the greatest", math.MaxInt, "x"},
		{"at the greatest, no data", math.MaxInt, ""},
		{"at so that the sum wraps round", math.MaxInt - 1, "xyz"},
	} {
		got, e := Program(a, p.at, p.data)
		refuse(t, "P1.1: Program: "+p.name, got, e)
		for _, mask := range []string{"", "\xff", "\x0f\x01"} {
			got, e = ProgramCut(a, p.at, p.data, mask)
			refuse(t, "P1.2: ProgramCut: "+p.name, got, e)
		}
	}
	for _, wrong := range wrongCells() {
		for _, data := range []string{"", "x"} {
			got, e := Program(wrong, 0, data)
			refuse(t, "P1.1: Program of wrong cells", got, e)
			got, e = ProgramCut(wrong, 0, data, "\xff")
			refuse(t, "P1.2: ProgramCut of wrong cells", got, e)
		}
	}
}

func TestEraseRefuses(t *testing.T) {
	a := pattern()
	for _, sector := range []int{-1, api.Sectors, api.Sectors + 1, math.MinInt, math.MaxInt, math.MaxInt/api.SectorSize + 1} {
		got, e := Erase(a, sector)
		refuse(t, "P1.1: Erase of a wrong sector", got, e)
		for _, mask := range []string{"", "\xff", "\x0f\x01"} {
			got, e = EraseCut(a, sector, mask)
			refuse(t, "P1.2: EraseCut of a wrong sector", got, e)
		}
	}
	for _, wrong := range wrongCells() {
		got, e := Erase(wrong, 0)
		refuse(t, "P1.1: Erase of wrong cells", got, e)
		got, e = EraseCut(wrong, 0, "\xff")
		refuse(t, "P1.2: EraseCut of wrong cells", got, e)
	}
}

// TestManyAtOnce calls from several goroutines at one time (R5), each with the same answer.
func TestManyAtOnce(t *testing.T) {
	a := pattern()
	data, mask := ramp(api.Page, 9, 31), "\x55\x0f\x80"
	program, erase := wantProgram(a, 64, data, mask), wantErase(a, 3, mask)
	var group sync.WaitGroup
	for range 8 {
		group.Go(func() {
			for range 20 {
				got, e := ProgramCut(a, 64, data, mask)
				check(t, "R5: ProgramCut", got, e, program)
				got, e = EraseCut(a, 3, mask)
				check(t, "R5: EraseCut", got, e, erase)
			}
		})
	}
	group.Wait()
}
