package wire

import (
	"lichen/api"
	"lichen/lane"
)

const (
	// idle is what the lanes have where nothing is said: all of them are up.
	idle = 15
	// otherLanes are the lanes that stay up where a byte goes on the lowest one.
	otherLanes = 14
)

// walk is how far a row of phases has come, clock by clock.
type walk struct {
	rest []api.Phase // the first one is under way
	gone int         // the clocks of it that are over
	xs   []int       // what the lanes carry of the byte that goes, or carried of the one that comes
	read []int       // the bytes that came whole
}

// lanes is what the lanes have at the clock that comes.
func (w *walk) lanes() int {
	p := w.rest[0]
	if len(p.Bytes) == 0 {
		return idle
	}
	n := byteClocks(p.Lanes)
	if w.gone%n == 0 {
		w.xs, _ = lane.Out(p.Bytes[w.gone/n], p.Lanes)
	}
	x := w.xs[w.gone%n]
	if p.Lanes == 1 {
		return otherLanes | x
	}
	return x
}

// step ends a clock, at which the chip said this. Behind a phase's last clock the next one is under way, with nothing left of a byte.
func (w *walk) step(says int) {
	p := w.rest[0]
	if p.Read > 0 {
		w.hear(says, p.Lanes)
	}
	w.gone++
	if w.gone == clocks(p) {
		w.rest, w.gone, w.xs = w.rest[1:], 0, nil
	}
}

// hear takes what the chip said into the byte that comes. On one lane the chip tells it on the second lowest.
func (w *walk) hear(says int, lanes int) {
	if lanes == 1 {
		says = says >> 1 & 1
	}
	w.xs = append(w.xs, says)
	if len(w.xs) < byteClocks(lanes) {
		return
	}
	b, _ := lane.In(w.xs, lanes)
	w.read = append(w.read, b)
	w.xs = w.xs[:0]
}
