package op

import (
	"math"
	"slices"
	"sync"
	"testing"

	"lichen/api"
)

// commands tells each command by numbers, as the document has it, in rising order. It is written out anew for each who asks.
func commands() []api.Op {
	return []api.Op{
		{Byte: 1, Addr: 0, Mode: false, Dummy: 0, Data: 1, In: true},    // OpStatusPut
		{Byte: 2, Addr: 1, Mode: false, Dummy: 0, Data: 1, In: true},    // OpProgram
		{Byte: 3, Addr: 1, Mode: false, Dummy: 0, Data: 1, In: false},   // OpRead
		{Byte: 4, Addr: 0, Mode: false, Dummy: 0, Data: 0, In: false},   // OpDisable
		{Byte: 5, Addr: 0, Mode: false, Dummy: 0, Data: 1, In: false},   // OpStatus
		{Byte: 6, Addr: 0, Mode: false, Dummy: 0, Data: 0, In: false},   // OpEnable
		{Byte: 32, Addr: 1, Mode: false, Dummy: 0, Data: 0, In: false},  // OpErase
		{Byte: 53, Addr: 0, Mode: false, Dummy: 0, Data: 1, In: false},  // OpStatus2
		{Byte: 90, Addr: 1, Mode: false, Dummy: 8, Data: 1, In: false},  // OpSfdp
		{Byte: 107, Addr: 1, Mode: false, Dummy: 8, Data: 4, In: false}, // OpQuadOut
		{Byte: 117, Addr: 0, Mode: false, Dummy: 0, Data: 0, In: false}, // OpSuspend
		{Byte: 122, Addr: 0, Mode: false, Dummy: 0, Data: 0, In: false}, // OpResume
		{Byte: 159, Addr: 0, Mode: false, Dummy: 0, Data: 1, In: false}, // OpId
		{Byte: 235, Addr: 4, Mode: true, Dummy: 4, Data: 4, In: false},  // OpQuadIo
	}
}

// bytesThere tells the bytes of all commands, rising.
func bytesThere() []int {
	var there []int
	for _, o := range commands() {
		there = append(there, o.Byte)
	}
	return there
}

// checkOf wants a command with all its fields, and no error.
func checkOf(t *testing.T, b int, want api.Op) {
	t.Helper()
	if got, e := Of(b); e != api.OK || got != want {
		t.Errorf("P4.1: Of(%d): %+v, error %d; wanted %+v", b, got, e, want)
	}
}

// refuseOf wants the form error, and beside it a command without anything (R2).
func refuseOf(t *testing.T, b int) {
	t.Helper()
	if got, e := Of(b); e != api.ErrOpForm || got != (api.Op{}) {
		t.Errorf("P4.1: Of(%d): %+v, error %d; wanted none, error %d", b, got, e, api.ErrOpForm)
	}
}

// checkAll wants the bytes of all commands.
func checkAll(t *testing.T) {
	t.Helper()
	if got := All(); !slices.Equal(got, bytesThere()) {
		t.Errorf("P4.1: All(): %v; wanted %v", got, bytesThere())
	}
}

func TestEachCommand(t *testing.T) {
	for _, o := range commands() {
		checkOf(t, o.Byte, o)
	}
}

// TestByName asks for the commands by the names that the document uses, part by part.
func TestByName(t *testing.T) {
	for _, c := range []struct {
		b    int
		want api.Op
	}{
		{api.OpStatusPut, api.Op{Data: 1, In: true}},
		{api.OpProgram, api.Op{Addr: 1, Data: 1, In: true}},
		{api.OpRead, api.Op{Addr: 1, Data: 1}},
		{api.OpDisable, api.Op{}},
		{api.OpEnable, api.Op{}},
		{api.OpSuspend, api.Op{}},
		{api.OpResume, api.Op{}},
		{api.OpStatus, api.Op{Data: 1}},
		{api.OpStatus2, api.Op{Data: 1}},
		{api.OpId, api.Op{Data: 1}},
		{api.OpErase, api.Op{Addr: 1}},
		{api.OpSfdp, api.Op{Addr: 1, Dummy: 8, Data: 1}},
		{api.OpQuadOut, api.Op{Addr: 1, Dummy: 8, Data: 4}},
		{api.OpQuadIo, api.Op{Addr: 4, Mode: true, Dummy: 4, Data: 4}},
	} {
		c.want.Byte = c.b
		checkOf(t, c.b, c.want)
	}
}

func TestAll(t *testing.T) {
	checkAll(t)
	all := All()
	for i := 1; i < len(all); i++ {
		if all[i-1] >= all[i] {
			t.Errorf("P4.1: All() does not rise: %d ahead of %d", all[i-1], all[i])
		}
	}
}

// TestEveryByte wants that Of knows the bytes of All, and no other one.
func TestEveryByte(t *testing.T) {
	known := commands()
	all := All()
	for b := range 256 {
		if _, e := Of(b); (e == api.OK) != slices.Contains(all, b) {
			t.Errorf("P4.1: Of(%d): error %d; All(): %v", b, e, all)
		}
		if len(known) > 0 && known[0].Byte == b {
			checkOf(t, b, known[0])
			known = known[1:]
			continue
		}
		refuseOf(t, b)
	}
	if len(known) != 0 {
		t.Errorf("P4.1: no bytes: %v", known)
	}
}

// TestBeside asks for what is one beside each command, and for what would be one if only its lowest bits counted.
func TestBeside(t *testing.T) {
	there := bytesThere()
	for _, b := range there {
		for _, other := range []int{b - 1, b + 1} {
			if !slices.Contains(there, other) {
				refuseOf(t, other)
			}
		}
		for _, far := range []int{256, 512, -256, 128 << 8, 1 << 16, 1 << 32, -1 << 32, math.MinInt} {
			refuseOf(t, b+far)
		}
		refuseOf(t, -b)
		refuseOf(t, ^b)
	}
}

func TestRefusesNumbers(t *testing.T) {
	for _, b := range []int{-1, 0, 255, 256, -2, 257, -128, -255, -256, 511, 512, math.MinInt8, math.MinInt16, math.MaxInt16, math.MinInt32, math.MaxInt32, math.MinInt, math.MinInt + 1, math.MaxInt - 1, math.MaxInt} {
		refuseOf(t, b)
	}
}

// TestMemory writes into what All gave, its spare room too, and wants the other answers as they were (R4).
func TestMemory(t *testing.T) {
	first, second := All(), All()
	for i := range first[:cap(first)] {
		first[:cap(first)][i] = -1
	}
	if !slices.Equal(second, bytesThere()) {
		t.Errorf("R4: All shares its answers: %v", second)
	}
	checkAll(t)
	for _, o := range commands() {
		checkOf(t, o.Byte, o)
	}
}

// TestSameAgain wants the same answers in whatever order they are asked for (R5).
func TestSameAgain(t *testing.T) {
	known := commands()
	slices.Reverse(known)
	for range 3 {
		for _, o := range known {
			checkOf(t, o.Byte, o)
			refuseOf(t, o.Byte+256)
			checkOf(t, o.Byte, o)
		}
		checkAll(t)
	}
}

// TestManyAtOnce calls from several goroutines at one time (R5), each with the same answer.
func TestManyAtOnce(t *testing.T) {
	var group sync.WaitGroup
	for range 8 {
		group.Go(func() {
			for _, o := range commands() {
				checkAll(t)
				checkOf(t, o.Byte, o)
				refuseOf(t, o.Byte+256)
			}
		})
	}
	group.Wait()
}
