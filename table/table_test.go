package table

import (
	"math"
	"reflect"
	"slices"
	"sync"
	"testing"

	"lichen/api"
	"lichen/op"
)

// form is a command by numbers, with what may be handed in beside it.
type form struct {
	o                   api.Op
	placeEnd            int
	leastData, mostData int
	mostRead            int
}

// forms tells all commands, written out anew for each who asks.
func forms() []form {
	return []form{
		{api.Op{Byte: 1, Data: 1, In: true}, 1, 0, 512, 0},
		{api.Op{Byte: 2, Addr: 1, Data: 1, In: true}, 4096, 0, 512, 0},
		{api.Op{Byte: 3, Addr: 1, Data: 1}, 4096, 0, 0, 512},
		{api.Op{Byte: 4}, 1, 0, 0, 0},
		{api.Op{Byte: 5, Data: 1}, 1, 0, 0, 512},
		{api.Op{Byte: 6}, 1, 0, 0, 0},
		{api.Op{Byte: 32, Addr: 1}, 4096, 0, 0, 0},
		{api.Op{Byte: 53, Data: 1}, 1, 0, 0, 512},
		{api.Op{Byte: 90, Addr: 1, Dummy: 8, Data: 1}, 4096, 0, 0, 512},
		{api.Op{Byte: 107, Addr: 1, Dummy: 8, Data: 4}, 4096, 0, 0, 512},
		{api.Op{Byte: 117}, 1, 0, 0, 0},
		{api.Op{Byte: 122}, 1, 0, 0, 0},
		{api.Op{Byte: 159, Data: 1}, 1, 0, 0, 512},
		{api.Op{Byte: 235, Addr: 4, Mode: true, Dummy: 4, Data: 4}, 4096, 1, 1, 512},
	}
}

// fits: may these be handed in together?
func (f form) fits(at int, data []int, read int) bool {
	for _, x := range data {
		if x < 0 || x > 255 {
			return false
		}
	}
	return at >= 0 && at < f.placeEnd && len(data) >= f.leastData && len(data) <= f.mostData && read >= 0 && read <= f.mostRead
}

// least is the shortest list of data that the command may have.
func (f form) least() []int {
	return make([]int, f.leastData)
}

// say, nothing and come are the three kinds of phases.
func say(lanes int, bytes ...int) api.Phase { return api.Phase{Lanes: lanes, Bytes: bytes} }
func nothing(clocks int) api.Phase          { return api.Phase{Clocks: clocks} }
func come(lanes int, read int) api.Phase    { return api.Phase{Lanes: lanes, Read: read} }

// row is a list of phases.
func row(ps ...api.Phase) []api.Phase { return ps }

// some is n bytes that differ from their neighbours.
func some(n int) []int {
	data := make([]int, n)
	for i := range data {
		data[i] = (i*37 + 11) % 256
	}
	return data
}

// samePhase: an empty list and nil are one.
func samePhase(a, b api.Phase) bool {
	return a.Lanes == b.Lanes && slices.Equal(a.Bytes, b.Bytes) && a.Clocks == b.Clocks && a.Read == b.Read
}

func checkCommand(t *testing.T, o api.Op, at int, data []int, read int, want []api.Phase) {
	t.Helper()
	old := slices.Clone(data)
	got, e := Command(o, at, data, read)
	if e != api.OK || !slices.EqualFunc(got, want, samePhase) {
		t.Fatalf("P9.2: Command(%+v, %d, %v, %d): %+v, error %d; wanted %+v", o, at, data, read, got, e, want)
	}
	if !slices.Equal(data, old) {
		t.Fatalf("R4: Command(%+v, %d, .., %d) changed its data: %v, were %v", o, at, read, data, old)
	}
}

// refuseCommand wants the form error, and no phases beside it (R2).
func refuseCommand(t *testing.T, o api.Op, at int, data []int, read int) {
	t.Helper()
	old := slices.Clone(data)
	got, e := Command(o, at, data, read)
	if e != api.ErrTableForm || len(got) != 0 {
		t.Errorf("P9.2: Command(%+v, %d, %d data, %d): %+v, error %d; wanted none, error %d", o, at, len(data), read, got, e, api.ErrTableForm)
	}
	if !slices.Equal(data, old) {
		t.Errorf("R4: Command(%+v, %d, .., %d) changed its data: %v, were %v", o, at, read, data, old)
	}
}

func checkFind(t *testing.T, b int, want api.Op) {
	t.Helper()
	if got, e := Find(b); e != api.OK || got != want {
		t.Errorf("P9.1: Find(%d): %+v, error %d; wanted %+v", b, got, e, want)
	}
}

// refuseFind wants the form error, and beside it a command without anything (R2).
func refuseFind(t *testing.T, b int) {
	t.Helper()
	if got, e := Find(b); e != api.ErrTableForm || got != (api.Op{}) {
		t.Errorf("P9.1: Find(%d): %+v, error %d; wanted none, error %d", b, got, e, api.ErrTableForm)
	}
}

func TestNumbers(t *testing.T) {
	if api.Size != 4096 || api.SectorSize != 512 || api.ErrTableForm != 900 {
		t.Error("numbers of the document")
	}
}

// TestFindEachByte holds each byte against the commands by hand, and against layer 4.
func TestFindEachByte(t *testing.T) {
	known := forms()
	for b := range 256 {
		if len(known) > 0 && known[0].o.Byte == b {
			checkFind(t, b, known[0].o)
			known = known[1:]
		} else {
			refuseFind(t, b)
		}
		if of, e := op.Of(b); e == api.OK {
			checkFind(t, b, of)
		} else {
			refuseFind(t, b)
		}
	}
	if len(known) != 0 {
		t.Errorf("P9.1: no bytes: %v", known)
	}
}

func TestFindBeyondAByte(t *testing.T) {
	for _, b := range []int{-1, 256, 257, -2, -128, -255, -256, -257, 511, 512, math.MinInt32, math.MaxInt32, math.MinInt, math.MinInt + 1, math.MaxInt - 1, math.MaxInt} {
		refuseFind(t, b)
	}
	for b := -2000; b < 0; b++ {
		refuseFind(t, b)
	}
	for b := 256; b < 2000; b++ {
		refuseFind(t, b)
	}
	// Numbers whose lowest bits are a command's.
	for _, f := range forms() {
		for _, far := range []int{256, -256, 1 << 16, 1 << 32, -1 << 32, math.MinInt} {
			refuseFind(t, f.o.Byte+far)
		}
		refuseFind(t, -f.o.Byte)
	}
}

// TestWithoutAddressAndData: the byte alone, on one lane.
func TestWithoutAddressAndData(t *testing.T) {
	checkCommand(t, api.Op{Byte: 4}, 0, nil, 0, row(say(1, 4)))
	checkCommand(t, api.Op{Byte: 6}, 0, nil, 0, row(say(1, 6)))
	checkCommand(t, api.Op{Byte: 117}, 0, nil, 0, row(say(1, 117)))
	checkCommand(t, api.Op{Byte: 122}, 0, nil, 0, row(say(1, 122)))
}

func TestStatusPut(t *testing.T) {
	o := api.Op{Byte: 1, Data: 1, In: true}
	checkCommand(t, o, 0, nil, 0, row(say(1, 1)))
	checkCommand(t, o, 0, []int{0}, 0, row(say(1, 1), say(1, 0)))
	checkCommand(t, o, 0, []int{255}, 0, row(say(1, 1), say(1, 255)))
	checkCommand(t, o, 0, []int{4, 2}, 0, row(say(1, 1), say(1, 4, 2)))
	checkCommand(t, o, 0, some(512), 0, row(say(1, 1), say(1, some(512)...)))
}

func TestProgram(t *testing.T) {
	o := api.Op{Byte: 2, Addr: 1, Data: 1, In: true}
	checkCommand(t, o, 0, nil, 0, row(say(1, 2), say(1, 0, 0, 0)))
	checkCommand(t, o, 4095, nil, 0, row(say(1, 2), say(1, 0, 15, 255)))
	checkCommand(t, o, 0, []int{0}, 0, row(say(1, 2), say(1, 0, 0, 0), say(1, 0)))
	checkCommand(t, o, 4095, []int{255}, 0, row(say(1, 2), say(1, 0, 15, 255), say(1, 255)))
	checkCommand(t, o, 256, []int{9, 8, 7}, 0, row(say(1, 2), say(1, 0, 1, 0), say(1, 9, 8, 7)))
	checkCommand(t, o, 255, some(512), 0, row(say(1, 2), say(1, 0, 0, 255), say(1, some(512)...)))
}

func TestRead(t *testing.T) {
	o := api.Op{Byte: 3, Addr: 1, Data: 1}
	checkCommand(t, o, 0, nil, 0, row(say(1, 3), say(1, 0, 0, 0)))
	checkCommand(t, o, 4095, nil, 0, row(say(1, 3), say(1, 0, 15, 255)))
	checkCommand(t, o, 0, nil, 1, row(say(1, 3), say(1, 0, 0, 0), come(1, 1)))
	checkCommand(t, o, 2561, nil, 512, row(say(1, 3), say(1, 0, 10, 1), come(1, 512)))
	checkCommand(t, o, 4095, nil, 512, row(say(1, 3), say(1, 0, 15, 255), come(1, 512)))
}

// TestTells: the commands that tell of the chip, without an address.
func TestTells(t *testing.T) {
	for _, b := range []int{5, 53, 159} {
		o := api.Op{Byte: b, Data: 1}
		checkCommand(t, o, 0, nil, 0, row(say(1, b)))
		checkCommand(t, o, 0, nil, 1, row(say(1, b), come(1, 1)))
		checkCommand(t, o, 0, nil, 512, row(say(1, b), come(1, 512)))
	}
}

func TestErase(t *testing.T) {
	o := api.Op{Byte: 32, Addr: 1}
	checkCommand(t, o, 0, nil, 0, row(say(1, 32), say(1, 0, 0, 0)))
	checkCommand(t, o, 2048, nil, 0, row(say(1, 32), say(1, 0, 8, 0)))
	checkCommand(t, o, 4095, nil, 0, row(say(1, 32), say(1, 0, 15, 255)))
}

func TestSfdp(t *testing.T) {
	o := api.Op{Byte: 90, Addr: 1, Dummy: 8, Data: 1}
	checkCommand(t, o, 0, nil, 0, row(say(1, 90), say(1, 0, 0, 0), nothing(8)))
	checkCommand(t, o, 0, nil, 32, row(say(1, 90), say(1, 0, 0, 0), nothing(8), come(1, 32)))
	checkCommand(t, o, 4095, nil, 512, row(say(1, 90), say(1, 0, 15, 255), nothing(8), come(1, 512)))
}

func TestQuadOut(t *testing.T) {
	o := api.Op{Byte: 107, Addr: 1, Dummy: 8, Data: 4}
	checkCommand(t, o, 0, nil, 0, row(say(1, 107), say(1, 0, 0, 0), nothing(8)))
	checkCommand(t, o, 513, nil, 1, row(say(1, 107), say(1, 0, 2, 1), nothing(8), come(4, 1)))
	checkCommand(t, o, 4095, nil, 512, row(say(1, 107), say(1, 0, 15, 255), nothing(8), come(4, 512)))
}

// TestQuadIo: the address and the mode bits go on four lanes, each a phase of its own; without a read the clocks of nothing are the last.
func TestQuadIo(t *testing.T) {
	o := api.Op{Byte: 235, Addr: 4, Mode: true, Dummy: 4, Data: 4}
	checkCommand(t, o, 0, []int{0}, 0, row(say(1, 235), say(4, 0, 0, 0), say(4, 0), nothing(4)))
	checkCommand(t, o, 0, []int{160}, 1, row(say(1, 235), say(4, 0, 0, 0), say(4, 160), nothing(4), come(4, 1)))
	checkCommand(t, o, 4095, []int{255}, 512, row(say(1, 235), say(4, 0, 15, 255), say(4, 255), nothing(4), come(4, 512)))
	for x := range 256 {
		checkCommand(t, o, 771, []int{x}, 16, row(say(1, 235), say(4, 0, 3, 3), say(4, x), nothing(4), come(4, 16)))
	}
}

// TestEachPlace: all addresses there are, counted up byte by byte.
func TestEachPlace(t *testing.T) {
	for _, f := range forms() {
		if f.placeEnd == 1 {
			continue
		}
		at := 0
		for high := range 16 {
			for low := range 256 {
				ps, e := Command(f.o, at, f.least(), 0)
				if e != api.OK || len(ps) < 2 || !samePhase(ps[1], say(f.o.Addr, 0, high, low)) {
					t.Fatalf("P9.2: command %d at %d: %+v, error %d", f.o.Byte, at, ps, e)
				}
				at++
			}
		}
		refuseCommand(t, f.o, at, f.least(), 0)
	}
}

// TestEachNumberOfData: none to SectorSize, and no more.
func TestEachNumberOfData(t *testing.T) {
	for n := 1; n <= 512; n++ {
		checkCommand(t, api.Op{Byte: 1, Data: 1, In: true}, 0, some(n), 0, row(say(1, 1), say(1, some(n)...)))
		checkCommand(t, api.Op{Byte: 2, Addr: 1, Data: 1, In: true}, 1026, some(n), 0, row(say(1, 2), say(1, 0, 4, 2), say(1, some(n)...)))
	}
	for _, n := range []int{513, 514, 1024, 4096, 100000} {
		refuseCommand(t, api.Op{Byte: 1, Data: 1, In: true}, 0, some(n), 0)
		refuseCommand(t, api.Op{Byte: 2, Addr: 1, Data: 1, In: true}, 0, some(n), 0)
	}
}

// TestEachRead: each number of bytes there is, for each command that tells data.
func TestEachRead(t *testing.T) {
	for _, f := range forms() {
		if f.mostRead == 0 {
			continue
		}
		short, e := Command(f.o, 0, f.least(), 0)
		if e != api.OK {
			t.Fatalf("P9.2: command %d: error %d", f.o.Byte, e)
		}
		for n := 1; n <= 512; n++ {
			checkCommand(t, f.o, 0, f.least(), n, append(slices.Clip(short), come(f.o.Data, n)))
		}
	}
}

// TestEachDataNumber: each byte at the first, a middle and the last place; one off a byte is refused at each of them.
func TestEachDataNumber(t *testing.T) {
	o := api.Op{Byte: 2, Addr: 1, Data: 1, In: true}
	for _, n := range []int{1, 2, 3, 512} {
		for _, place := range []int{0, n / 2, n - 1} {
			for x := -3; x < 259; x++ {
				data := some(n)
				data[place] = x
				if x >= 0 && x < 256 {
					checkCommand(t, o, 0, data, 0, row(say(1, 2), say(1, 0, 0, 0), say(1, data...)))
				} else {
					refuseCommand(t, o, 0, data, 0)
				}
			}
		}
	}
}

// turned tells commands that differ from o in one part.
func turned(o api.Op) []api.Op {
	var all []api.Op
	for _, x := range []int{-1, 0, 1, 2, 3, 4, 5, 8, 9, 256, math.MinInt, math.MaxInt} {
		for _, part := range []func(*api.Op) *int{
			func(o *api.Op) *int { return &o.Addr },
			func(o *api.Op) *int { return &o.Dummy },
			func(o *api.Op) *int { return &o.Data },
		} {
			other := o
			*part(&other) = x
			all = append(all, other)
		}
	}
	mode, in := o, o
	mode.Mode = !o.Mode
	in.In = !o.In
	return slices.DeleteFunc(append(all, mode, in), func(x api.Op) bool { return x == o })
}

// TestTurnedCommands: with whatever beside it, what differs from layer 4's in one part is no command.
func TestTurnedCommands(t *testing.T) {
	for _, f := range forms() {
		others := turned(f.o)
		if len(others) < 30 {
			t.Fatalf("only %d others", len(others))
		}
		for _, other := range others {
			for n := range 3 {
				refuseCommand(t, other, 0, some(n), 0)
				refuseCommand(t, other, 0, some(n), 1)
				refuseCommand(t, other, 1, some(n), 0)
			}
		}
	}
}

// TestOtherBytes: a command's parts with a byte that is not its own, unless there is a command of just that form.
func TestOtherBytes(t *testing.T) {
	for _, f := range forms() {
		for b := -300; b < 600; b++ {
			other := f.o
			other.Byte = b
			if of, e := op.Of(b); e == api.OK && of == other {
				if ps, e := Command(other, 0, f.least(), 0); e != api.OK || len(ps) == 0 || !samePhase(ps[0], say(1, b)) {
					t.Errorf("P9.2: Command(%+v): %+v, error %d", other, ps, e)
				}
				continue
			}
			refuseCommand(t, other, 0, f.least(), 0)
		}
		for _, far := range []int{1 << 32, -1 << 32, math.MinInt} {
			other := f.o
			other.Byte += far
			refuseCommand(t, other, 0, f.least(), 0)
		}
	}
	refuseCommand(t, api.Op{}, 0, nil, 0)
}

// TestPlaces: both ends, for commands with an address and for those without.
func TestPlaces(t *testing.T) {
	for _, f := range forms() {
		for _, at := range []int{-1, -2, -4096, 4096, 4097, 1 << 16, 1 << 24, 1 << 32, math.MinInt, math.MaxInt} {
			refuseCommand(t, f.o, at, f.least(), 0)
		}
		for _, at := range []int{0, 1, 255, 256, 4095} {
			if _, e := Command(f.o, at, f.least(), 0); (e == api.OK) != (at < f.placeEnd) {
				t.Errorf("P9.2: command %d at %d: error %d", f.o.Byte, at, e)
			}
		}
	}
}

// TestReads: both ends, for each command.
func TestReads(t *testing.T) {
	for _, f := range forms() {
		for _, read := range []int{-1, -2, -512, 513, 514, 4096, math.MinInt, math.MaxInt} {
			refuseCommand(t, f.o, 0, f.least(), read)
		}
		for _, read := range []int{0, 1, 2, 511, 512} {
			if _, e := Command(f.o, 0, f.least(), read); (e == api.OK) != (read <= f.mostRead) {
				t.Errorf("P9.2: command %d, read %d: error %d", f.o.Byte, read, e)
			}
		}
	}
}

// TestHowManyData: none, one, two, all there may be, and one more, for each command.
func TestHowManyData(t *testing.T) {
	for _, f := range forms() {
		for _, n := range []int{0, 1, 2, 3, 511, 512, 513} {
			if _, e := Command(f.o, 0, some(n), 0); (e == api.OK) != (n >= f.leastData && n <= f.mostData) {
				t.Errorf("P9.2: command %d with %d data: error %d", f.o.Byte, n, e)
			}
		}
	}
}

// TestAllTogether: each row of edges, one beside another.
func TestAllTogether(t *testing.T) {
	goods := 0
	for _, f := range forms() {
		for _, at := range []int{-1, 0, 1, 4095, 4096} {
			for _, data := range [][]int{nil, {}, {0}, {255}, {256}, {-1}, {160}, {1, 2}, {1, 256}, some(512), some(513)} {
				for _, read := range []int{-1, 0, 1, 512, 513} {
					if f.fits(at, data, read) {
						goods++
						checkCommand(t, f.o, at, data, read, f.phases(at, data, read))
					} else {
						refuseCommand(t, f.o, at, data, read)
					}
				}
			}
		}
	}
	if goods != 141 {
		t.Errorf("P9.2: %d were good, by hand 141 are", goods)
	}
}

// phases tells a command's by its byte, all of them written out.
func (f form) phases(at int, data []int, read int) []api.Phase {
	high, low := at/256, at%256
	var ps []api.Phase
	switch f.o.Byte {
	case 4, 5, 6, 53, 117, 122, 159, 1:
		ps = row(say(1, f.o.Byte))
	case 2, 3, 32:
		ps = row(say(1, f.o.Byte), say(1, 0, high, low))
	case 90, 107:
		ps = row(say(1, f.o.Byte), say(1, 0, high, low), nothing(8))
	case 235:
		ps = row(say(1, 235), say(4, 0, high, low), say(4, data[0]), nothing(4))
	}
	if len(data) > 0 && f.o.Byte != 235 {
		ps = append(ps, say(1, data...))
	}
	if read > 0 {
		lanes := 1
		if f.o.Byte == 107 || f.o.Byte == 235 {
			lanes = 4
		}
		ps = append(ps, come(lanes, read))
	}
	return ps
}

// TestDataStay: what is handed in stays as it was, its spare room too, also when the answer is written over (R4).
func TestDataStay(t *testing.T) {
	for _, f := range forms() {
		room := some(40)
		data := room[3 : 3+f.leastData]
		if f.o.In {
			data = room[3:20]
		}
		ps, e := Command(f.o, 0, data, 0)
		if e != api.OK {
			t.Fatalf("P9.2: command %d: error %d", f.o.Byte, e)
		}
		scribble(ps)
		if !slices.Equal(room, some(40)) {
			t.Errorf("R4: command %d writes into what was handed in: %v", f.o.Byte, room)
		}
		refuseCommand(t, f.o, -1, room[3:20], 0)
		if !slices.Equal(room, some(40)) {
			t.Errorf("R4: command %d, refused, writes into what was handed in: %v", f.o.Byte, room)
		}
	}
}

// scribble writes over all that an answer holds, its spare room too.
func scribble(ps []api.Phase) {
	for _, p := range ps {
		for i := range p.Bytes[:cap(p.Bytes)] {
			p.Bytes[:cap(p.Bytes)][i] = -9
		}
	}
	for i := range ps[:cap(ps)] {
		ps[:cap(ps)][i] = api.Phase{Lanes: -9, Clocks: -9, Read: -9}
	}
}

// TestAnswerIsNotData: what is written into the data afterwards is not seen in the answer (R4).
func TestAnswerIsNotData(t *testing.T) {
	for _, f := range forms() {
		data := some(max(f.leastData, min(f.mostData, 7)))
		ps, _ := Command(f.o, 0, data, 0)
		for i := range data {
			data[i] = 99
		}
		want := f.phases(0, some(len(data)), 0)
		if !slices.EqualFunc(ps, want, samePhase) {
			t.Errorf("R4: command %d keeps what was handed in: %+v, wanted %+v", f.o.Byte, ps, want)
		}
	}
}

// TestAnswersShareNothing: an answer that is written over leaves an earlier one and a later one as they are (R4).
func TestAnswersShareNothing(t *testing.T) {
	for _, f := range forms() {
		read := min(f.mostRead, 5)
		data := some(max(f.leastData, min(f.mostData, 7)))
		want := f.phases(0, data, read)
		first, _ := Command(f.o, 0, data, read)
		second, _ := Command(f.o, 0, data, read)
		scribble(second)
		if !slices.EqualFunc(first, want, samePhase) {
			t.Errorf("R4: command %d shares its answers: %+v, wanted %+v", f.o.Byte, first, want)
		}
		checkCommand(t, f.o, 0, data, read, want)
	}
}

// TestListsOfOneAnswer: each is written over, with its spare room; the others stay (R4).
func TestListsOfOneAnswer(t *testing.T) {
	for _, f := range forms() {
		data := some(max(f.leastData, min(f.mostData, 7)))
		want := f.phases(0, data, 0)
		for over := range want {
			ps, _ := Command(f.o, 0, data, 0)
			bytes := ps[over].Bytes
			for i := range bytes[:cap(bytes)] {
				bytes[:cap(bytes)][i] = -9
			}
			for i := range ps {
				if i != over && !samePhase(ps[i], want[i]) {
					t.Errorf("R4: command %d: phases %d and %d share memory", f.o.Byte, over, i)
				}
			}
		}
	}
}

// TestEmptyAndNil: no data are one thing, in whatever form they come.
func TestEmptyAndNil(t *testing.T) {
	for _, f := range forms() {
		none, e := Command(f.o, 0, nil, 0)
		empty, f2 := Command(f.o, 0, []int{}, 0)
		spare, f3 := Command(f.o, 0, some(9)[:0], 0)
		if e != f2 || e != f3 || !reflect.DeepEqual(none, empty) || !reflect.DeepEqual(none, spare) {
			t.Errorf("R5: command %d: %+v, error %d; %+v, error %d; %+v, error %d", f.o.Byte, none, e, empty, f2, spare, f3)
		}
	}
}

// TestSameAgain: the same answers, in whatever order they are asked for, with refused ones between (R5).
func TestSameAgain(t *testing.T) {
	all := forms()
	slices.Reverse(all)
	for range 3 {
		for _, f := range all {
			read := min(f.mostRead, 9)
			checkFind(t, f.o.Byte, f.o)
			refuseFind(t, f.o.Byte+256)
			checkCommand(t, f.o, f.placeEnd-1, f.least(), read, f.phases(f.placeEnd-1, f.least(), read))
			refuseCommand(t, f.o, f.placeEnd, f.least(), read)
			checkCommand(t, f.o, f.placeEnd-1, f.least(), read, f.phases(f.placeEnd-1, f.least(), read))
		}
	}
}

// TestManyAtOnce: several goroutines ask with the same data at one time (R5).
func TestManyAtOnce(t *testing.T) {
	var all sync.WaitGroup
	data := some(1)
	for range 8 {
		all.Go(func() {
			for _, f := range forms() {
				if o, e := Find(f.o.Byte); e != api.OK || o != f.o {
					t.Errorf("R5: Find(%d): %+v, error %d", f.o.Byte, o, e)
				}
				for at := range 100 {
					ps, e := Command(f.o, at, data, 0)
					if (e == api.OK) != f.fits(at, data, 0) {
						t.Errorf("R5: command %d at %d: error %d", f.o.Byte, at, e)
					}
					scribble(ps)
				}
			}
		})
	}
	all.Wait()
}
