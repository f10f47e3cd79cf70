package ctl

import (
	"slices"
	"testing"

	"lichen/api"
	"lichen/chip"
	"lichen/wire"
)

// say, nothing and come are the three kinds of phases; row is a list of them.
func say(lanes int, bytes ...int) api.Phase { return api.Phase{Lanes: lanes, Bytes: bytes} }
func nothing(clocks int) api.Phase          { return api.Phase{Clocks: clocks} }
func come(lanes int, read int) api.Phase    { return api.Phase{Lanes: lanes, Read: read} }
func row(ps ...api.Phase) []api.Phase       { return ps }

// some is n bytes that differ from their neighbours.
func some(n int) []int {
	xs := make([]int, n)
	for i := range xs {
		xs[i] = (i*37 + 11) % 256
	}
	return xs
}

// order is a command with all that Run is handed with it.
type order struct {
	b, at int
	data  []int
	read  int
}

// plain orders have nothing but a byte, reads a place and a count too; modes have mode bits besides.
func plain(b int) order           { return order{b: b} }
func asks(b, read int) order      { return order{b: b, read: read} }
func reads(b, at, read int) order { return order{b: b, at: at, read: read} }
func quadIo(at int, mode, read int) order {
	return order{b: 235, at: at, data: []int{mode}, read: read}
}
func writes(b, at int, data ...int) order { return order{b: b, at: at, data: data} }

// row is an order's row of phases, worked out by hand.
func (o order) row() []api.Phase {
	high, middle, low := 0, o.at/256, o.at%256
	first := say(1, o.b)
	switch o.b {
	case 4, 6, 117, 122:
		return row(first)
	case 32:
		return row(first, say(1, high, middle, low))
	case 1:
		return withBytes(row(first), o.data)
	case 2:
		return withBytes(row(first, say(1, high, middle, low)), o.data)
	case 5, 53, 159:
		return withRead(row(first), 1, o.read)
	case 3:
		return withRead(row(first, say(1, high, middle, low)), 1, o.read)
	case 90:
		return withRead(row(first, say(1, high, middle, low), nothing(8)), 1, o.read)
	case 107:
		return withRead(row(first, say(1, high, middle, low), nothing(8)), 4, o.read)
	case 235:
		return withRead(row(first, say(4, high, middle, low), say(4, o.data...), nothing(4)), 4, o.read)
	}
	panic("by hand: no such command")
}

func withBytes(ps []api.Phase, data []int) []api.Phase {
	if len(data) > 0 {
		ps = append(ps, say(1, data...))
	}
	return ps
}

func withRead(ps []api.Phase, lanes, read int) []api.Phase {
	if read > 0 {
		ps = append(ps, come(lanes, read))
	}
	return ps
}

// goesOnBehind: does a read go on behind this order?
func (o order) goesOnBehind() bool {
	return o.b == 235 && o.data[0] == 160
}

// rows are the rows that an order takes, each driven alone, if a read goes on or not.
func (o order) rows(goesOn bool) [][]api.Phase {
	switch {
	case !goesOn:
		return [][]api.Phase{o.row()}
	case o.b == 235:
		return [][]api.Phase{o.row()[1:]}
	default:
		return [][]api.Phase{row(say(4, 0, 0, 0), say(4, 0)), o.row()}
	}
}

// clocks of rows, by layer 10.
func clocks(t *testing.T, rows [][]api.Phase) int {
	t.Helper()
	all := 0
	for _, ps := range rows {
		n, e := wire.Clocks(ps)
		if e != api.OK {
			t.Fatalf("P10.1: Clocks(%v): error %d", ps, e)
		}
		all += n
	}
	return all
}

// pattern is cells of which no two neighbouring pages or sectors are alike.
func pattern() string {
	cells := make([]byte, api.Size)
	for i := range cells {
		cells[i] = byte(i*7 + i/256*11 + 5)
	}
	return string(cells)
}

// rig is a controller of a chip, and a second chip that is driven by hand, row by row; and what the controller must know.
type rig struct {
	t      *testing.T
	c      *Ctl
	chip   *chip.Chip
	hand   *chip.Chip
	goesOn bool
	clocks int
	most   int // below 0: no bound
	lost   bool
}

// newRig has patterned cells; on its chips reads on four lanes may not be yet.
func newRig(t *testing.T, busy ...int) *rig {
	t.Helper()
	one, e := chip.New(pattern())
	two, f := chip.New(pattern())
	c, g := New(one)
	if e != api.OK || f != api.OK || g != api.OK || c == nil {
		t.Fatalf("P11.1: New: %v, errors %d, %d, %d", c, e, f, g)
	}
	if e, f := one.Next(busy), two.Next(busy); e != api.OK || f != api.OK {
		t.Fatalf("P6.1: Next(%v): errors %d, %d", busy, e, f)
	}
	return &rig{t: t, c: c, chip: one, hand: two, most: -1}
}

// quadRig is one on whose chips reads on four lanes may be.
func quadRig(t *testing.T, busy ...int) *rig {
	t.Helper()
	r := newRig(t, busy...)
	r.run(plain(6), writes(1, 0, 0, 2))
	return r
}

// byHand drives an order on the second chip within the bound: what was read. It knows where the power goes.
func (r *rig) byHand(o order) []int {
	r.t.Helper()
	var read []int
	for _, ps := range o.rows(r.goesOn) {
		xs, n, whole, e := wire.Drive(r.hand, ps, r.most)
		if e != api.OK {
			r.t.Fatalf("P10.2: %v by hand: error %d", ps, e)
		}
		r.clocks += n
		if r.most >= 0 {
			r.most -= n
		}
		if !whole {
			r.lost = true
			return nil
		}
		read = xs
	}
	r.goesOn = o.goesOnBehind()
	return read
}

// run runs orders on both chips, which must tell the same.
func (r *rig) run(os ...order) {
	r.t.Helper()
	for _, o := range os {
		was := slices.Clone(o.data)
		got, e := r.c.Run(o.b, o.at, o.data, o.read)
		want := r.byHand(o)
		if r.lost != (e == api.ErrCtlState) || !r.lost && e != api.OK || !slices.Equal(got, want) {
			r.t.Fatalf("P11.2: %v: %v, error %d; by hand %v, power gone %v", o, got, e, want, r.lost)
		}
		if !slices.Equal(o.data, was) {
			r.t.Fatalf("R4: %v: the data were %v", o, was)
		}
		r.same("P11.2", o)
	}
}

// cut sets the bound.
func (r *rig) cut(clocks int) {
	r.t.Helper()
	if e := r.c.Cut(clocks); e != api.OK {
		r.t.Fatalf("P11.1: Cut(%d): error %d", clocks, e)
	}
	r.most = clocks
	r.same("P11.1", clocks)
}

// refuse wants Run to answer an error, and nothing beside it, and to change nothing.
func (r *rig) refuse(o order, want api.Errno) {
	r.t.Helper()
	was := slices.Clone(o.data)
	if got, e := r.c.Run(o.b, o.at, o.data, o.read); len(got) != 0 || e != want {
		r.t.Errorf("P11.2: %v: %v, error %d; wanted error %d", o, got, e, want)
	}
	if !slices.Equal(o.data, was) {
		r.t.Errorf("R4: %v: the data were %v", o, was)
	}
	r.same("P11.2: refused", o)
}

// same wants the controller to know what it must, and both chips to tell the same of themselves.
func (r *rig) same(what string, of any) {
	r.t.Helper()
	if r.c.Clocks() != r.clocks || r.c.Lost() != r.lost {
		r.t.Fatalf("%s: %v: %d clocks, lost %v; wanted %d, %v", what, of, r.c.Clocks(), r.c.Lost(), r.clocks, r.lost)
	}
	if r.chip.Cells() != r.hand.Cells() {
		r.t.Fatalf("%s: %v: other cells than by hand", what, of)
	}
	first, second := r.chip.Status()
	x, y := r.hand.Status()
	if first != x || second != y || !slices.Equal(r.chip.Wipes(), r.hand.Wipes()) {
		r.t.Fatalf("%s: %v: status %d, %d, wipes %v; by hand %d, %d, %v", what, of, first, second, r.chip.Wipes(), x, y, r.hand.Wipes())
	}
}

// both gives both chips the same clocks, at each of which they must tell the same.
func (r *rig) both(ins ...int) {
	r.t.Helper()
	for i, in := range ins {
		x, _ := r.chip.Clock(in)
		y, _ := r.hand.Clock(in)
		if x != y {
			r.t.Fatalf("P11.2: clock %d behind it: the chip says %d; by hand %d", i, x, y)
		}
		r.same("P11.2: clocks behind it", i)
	}
}

// alike wants both chips to be the same in whatever can be told: as they are, as they go on, deselected, and selected again.
func (r *rig) alike() {
	r.t.Helper()
	r.both(15, 14, 0, 9, 15, 15, 3, 14)
	r.both(slices.Repeat([]int{15}, 30)...)
	if x, y := r.chip.Deselect(), r.hand.Deselect(); x != y {
		r.t.Fatalf("P11.2: Deselect: error %d; by hand %d", x, y)
	}
	r.same("P11.2", "deselected")
	r.chip.Select()
	r.hand.Select()
	r.both(slices.Repeat([]int{15}, 24)...)
	r.chip.Deselect()
	r.hand.Deselect()
	for range api.MaxBusy {
		r.chip.Clock(15)
		r.hand.Clock(15)
	}
	r.same("P11.2", "at last")
}
