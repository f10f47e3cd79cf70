package chip

import (
	"math/rand"
	"testing"

	"lichen/api"
)

// model is a chip that keeps all clocks since Select, and works out anew at each of them what they mean.
type model struct {
	cells                                       []byte
	protected, quad                             bool
	wipes                                       [8]int
	selected, enabled, suspended, goes, without bool
	under                                       byte // 0, 'p', 'e'
	left, from                                  int
	page                                        [32]byte
	durations                                   []int
	ins                                         []int
	taken                                       bool
	begun                                       int // the data byte that is told
}

// form is a command's clocks: of its address, its mode bits, of nothing; how many a data byte has (0: there are none).
type form struct{ addr, mode, dummy, data int }

// forms writes chapter 4 out in clocks.
func forms(b int) (form, bool) {
	switch b {
	case 4, 6, 117, 122:
		return form{0, 0, 0, 0}, true
	case 1, 5, 53, 159:
		return form{0, 0, 0, 8}, true
	case 2, 3:
		return form{24, 0, 0, 8}, true
	case 32:
		return form{24, 0, 0, 0}, true
	case 90:
		return form{24, 0, 8, 8}, true
	case 107:
		return form{24, 0, 8, 2}, true
	case 235:
		return form{6, 2, 4, 2}, true
	}
	return form{}, false
}

// number is what clocks say, so many lanes of each.
func number(ins []int, lanes int) int {
	n := 0
	for _, in := range ins {
		for i := lanes - 1; i >= 0; i-- {
			n = n*2 + in>>i&1
		}
	}
	return n
}

// code is the command, where its byte is there.
func (m *model) code() (b int, start int) {
	if m.without {
		return 235, 0
	}
	if len(m.ins) < 8 {
		return -1, 8
	}
	return number(m.ins[:8], 1), 8
}

// address is the command's, where all of it is there.
func (m *model) address() int {
	b, start := m.code()
	f, _ := forms(b)
	lanes := 1
	if f.addr == 6 {
		lanes = 4
	}
	return number(m.ins[start:start+f.addr], lanes) % 4096
}

// judge tells whether a command is taken now.
func (m *model) judge(b int) bool {
	if _, ok := forms(b); !ok {
		return false
	}
	if (b == 107 || b == 235) && !m.quad {
		return false
	}
	if m.under != 0 && !m.suspended {
		return b == 5 || b == 53 || b == 117
	}
	if m.under != 0 {
		return b != 1 && b != 2 && b != 32
	}
	return true
}

// status is both bytes.
func (m *model) status() (int, int) {
	first, second := 0, 0
	if m.under != 0 && !m.suspended {
		first++
	}
	if m.enabled {
		first += 2
	}
	if m.protected {
		first += 4
	}
	if m.quad {
		second += 2
	}
	if m.suspended {
		second += 128
	}
	return first, second
}

// byteNow is the n-th data byte of a command, as it is now.
func (m *model) byteNow(b, n int) int {
	first, second := m.status()
	switch b {
	case 159:
		return []int{239, 64, 12}[n%3]
	case 5:
		return first
	case 53:
		return second
	case 90:
		table := []int{'S', 'F', 'D', 'P', 6, 1, 0, 255, 0, 16, 0, 0, 0, 2, 0, 0, 32, 0, 0, 0}
		if i := (m.address() + n) % 32; i < len(table) {
			return table[i]
		}
		return 255
	}
	return int(m.cells[(m.address()+n)%4096])
}

// apply does the bits of the mask of what is under way.
func (m *model) apply(mask string) {
	at := func(i int) byte {
		if mask == "" {
			return 0
		}
		return mask[i%len(mask)]
	}
	if m.under == 'e' {
		for i := range 512 {
			m.cells[m.from+i] |= at(i)
		}
	}
	if m.under == 'p' {
		for i, x := range m.page {
			m.cells[m.from+i] &= x | ^at(i)
		}
	}
	m.under, m.left = 0, 0
}

func (m *model) clock(in int) int {
	if m.under != 0 && !m.suspended {
		if m.left--; m.left == 0 {
			m.apply("\xff")
			m.enabled = false
		}
	}
	if !m.selected {
		return 15
	}
	m.ins = append(m.ins, in)
	b, start := m.code()
	n := len(m.ins)
	if !m.without && n == 8 {
		m.taken = m.judge(b)
	}
	f, _ := forms(b)
	i := n - 1 - start - f.addr - f.mode - f.dummy
	if n <= start || !m.taken || i < 0 || f.data == 0 || b == 1 || b == 2 {
		return 15
	}
	if i%f.data == 0 {
		m.begun = m.byteNow(b, i/f.data)
	}
	if f.data == 2 {
		return m.begun >> (4 - i%2*4) & 15
	}
	return 13 + m.begun>>(7-i%8)&1*2
}

func (m *model) sel() {
	m.selected, m.without, m.taken, m.ins = true, m.goes, m.goes, nil
}

func (m *model) desel() {
	b, start := m.code()
	f, _ := forms(b)
	m.selected, m.goes = false, false
	if !m.taken {
		return
	}
	more := len(m.ins) - start - f.addr - f.mode - f.dummy
	if b == 235 && len(m.ins) >= start+8 {
		m.goes = number(m.ins[start+6:start+8], 4) == 160
	}
	if more < 0 || more > 0 && f.data == 0 {
		return
	}
	m.effect(b, start, f, more)
}

// effect does a command that is whole, or nothing.
func (m *model) effect(b, start int, f form, more int) {
	switch b {
	case 6:
		m.enabled = true
	case 4:
		m.enabled = false
	case 117:
		if m.under == 'e' {
			m.suspended = true
		}
	case 122:
		m.suspended = false
	case 1:
		if more == 16 && m.enabled {
			m.protected = number(m.ins[8:16], 1)&4 > 0
			m.quad = number(m.ins[16:24], 1)&2 > 0
			m.enabled = false
		}
	case 2:
		if more > 0 && more%8 == 0 && m.enabled {
			m.begin('p', m.ins[32:])
		}
	case 32:
		if m.enabled {
			m.begin('e', nil)
		}
	}
}

// begin lets a program or an erase be under way.
func (m *model) begin(what byte, bits []int) {
	at := m.address()
	if m.protected && at < 2048 {
		m.enabled = false
		return
	}
	m.under, m.left = what, 8
	if len(m.durations) > 0 {
		m.left, m.durations = m.durations[0], m.durations[1:]
	}
	if what == 'e' {
		m.from = at / 512 * 512
		m.wipes[at/512]++
		return
	}
	m.from = at / 32 * 32
	for i := range m.page {
		m.page[i] = 255
	}
	for i := 0; i*8 < len(bits); i++ {
		m.page[(at+i)%32] = byte(number(bits[i*8:i*8+8], 1))
	}
}

func (m *model) loss(mask string) {
	m.apply(mask)
	*m = model{cells: m.cells, protected: m.protected, quad: m.quad, wipes: m.wipes}
}

// walker drives a chip and the model alike.
type walker struct {
	bus
	m *model
	r *rand.Rand
}

// clock is one clock of both.
func (w walker) clock(in int) {
	w.t.Helper()
	got, want := w.bus.clock(in), w.m.clock(in)
	if got != want {
		w.t.Fatalf("P6.2: clock %d since Select (%v): it says %d; wanted %d", len(w.m.ins), w.m.ins, got, want)
	}
}

// alike wants all that a chip tells to be the model's.
func (w walker) alike(what string) {
	w.t.Helper()
	first, second := w.m.status()
	w.status(what, first, second)
	w.bus.cells(what, string(w.m.cells))
	w.bus.wipes(what, w.m.wipes[:]...)
}

// clocksOf makes up a command: a known one mostly, with some data, and now and then cut, or with clocks more.
func (w walker) clocksOf() []int {
	r := w.r
	known := all()
	b := known[r.Intn(len(known))]
	if r.Intn(12) == 0 {
		b = r.Intn(256)
	}
	mode := []int{160, 160, 0, 175, 163}[r.Intn(5)]
	at := r.Intn(1 << 24)
	if r.Intn(2) == 0 {
		at = r.Intn(8)*512 + []int{0, 31, 511}[r.Intn(3)]
	}
	ins := head(r.Intn(16), b, at, mode)
	if w.m.goes {
		ins = head(0, api.OpQuadIo, at, mode)[8:]
	}
	more := []int{0, 0, 1, 8, 16, 16, 16, 24, r.Intn(400)}[r.Intn(9)]
	for range more {
		ins = append(ins, r.Intn(16))
	}
	if r.Intn(8) == 0 {
		ins = ins[:r.Intn(len(ins)+1)]
	}
	return ins
}

// walk is one step of some kind.
func (w walker) walk() {
	w.t.Helper()
	r := w.r
	switch r.Intn(12) {
	case 0:
		var busy []int
		for range r.Intn(5) {
			busy = append(busy, []int{1, 7, 8, 9, 40, api.MaxBusy}[r.Intn(6)])
		}
		w.next(busy...)
		w.m.durations = busy
	case 1:
		for range []int{1, 3, 8, 50, 400}[r.Intn(5)] {
			w.clock(r.Intn(16))
		}
	case 2:
		if r.Intn(4) == 0 {
			w.lose()
		}
	case 3, 4:
		w.command(one(0, api.OpEnable))
	case 5:
		w.command(one(14, api.OpEnable))
		w.command(one(14, api.OpStatusPut, r.Intn(256), r.Intn(256)))
	default:
		w.command(w.clocksOf())
	}
	w.alike("P6.1 to P6.3")
}

// lose takes the power from both.
func (w walker) lose() {
	w.t.Helper()
	mask := []string{"", "\x00", "\xff", "\x0f\xf0\x33", string(make([]byte, 600)) + "\xff"}[w.r.Intn(5)]
	if e := w.c.Loss(mask); e != api.OK {
		w.t.Fatalf("P6.4: error %d", e)
	}
	w.m.loss(mask)
	w.alike("P6.4")
}

// command is one of both, in which the power goes now and then.
func (w walker) command(ins []int) {
	w.t.Helper()
	w.on()
	w.m.sel()
	lost := -1
	if w.r.Intn(40) == 0 {
		lost = w.r.Intn(len(ins) + 1)
	}
	for i, in := range ins {
		if i == lost {
			w.lose()
			return
		}
		w.clock(in)
		first, second := w.m.status()
		w.status("P6.2", first, second)
	}
	w.off()
	w.m.desel()
}

// The row of numbers is the same in each run.
func TestWalks(t *testing.T) {
	for seed := range int64(150) {
		w := walker{newBus(t, pattern()), &model{cells: []byte(pattern())}, rand.New(rand.NewSource(seed))}
		for range 150 {
			w.walk()
		}
	}
}
