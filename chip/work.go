package chip

import (
	"lichen/api"
	"lichen/cell"
)

// wholeMask lets every bit through: so what is under way is done whole (P1.3).
const wholeMask = "\xff"

// work is what may be under way: an erase of the sector around at, or a program of data from at on.
type work struct {
	left   int // clocks that it takes still; 0: nothing is under way
	erases bool
	at     int
	data   string
}

// goes tells whether something is under way.
func (w work) goes() bool {
	return w.left > 0
}

// on makes the cells that come of it, of whose bits just those of the mask are done.
func (w work) on(cells string, mask string) string {
	if w.erases {
		cells, _ = cell.EraseCut(cells, w.at/api.SectorSize, mask)
	} else {
		cells, _ = cell.ProgramCut(cells, w.at, w.data, mask)
	}
	return cells
}
