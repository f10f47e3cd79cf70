// Package cell: bits that fall by programs and rise by erases, sector by sector (chapter 1).
package cell

import (
	"lichen/api"
)

const (
	// allSet is a byte none of whose bits has fallen.
	allSet = 255
	// wholeMask lets every bit through: nothing is cut.
	wholeMask = "\xff"
)

// May tells whether a may be cells.
func May(a string) bool {
	return len(a) == api.Size
}

// Blank makes cells none of whose bits has fallen.
func Blank() string {
	cells := make([]byte, api.Size)
	for i := range cells {
		cells[i] = allSet
	}
	return string(cells)
}

// Program clears, from at on, the bits that data's bytes have not set.
func Program(a string, at int, data string) (string, api.Errno) {
	return ProgramCut(a, at, data, wholeMask)
}

// Erase sets all bits of a sector.
func Erase(a string, sector int) (string, api.Errno) {
	return EraseCut(a, sector, wholeMask)
}

// ProgramCut is a Program that was broken off: only the bits that mask's bytes have set are cleared.
func ProgramCut(a string, at int, data string, mask string) (string, api.Errno) {
	if !May(a) || !fits(at, len(data)) {
		return "", api.ErrCellForm
	}
	cells := []byte(a)
	for i := range len(data) {
		cells[at+i] &^= ^data[i] & maskByte(mask, i)
	}
	return string(cells), api.OK
}

// EraseCut is an Erase that was broken off: only the bits that mask's bytes have set are set.
func EraseCut(a string, sector int, mask string) (string, api.Errno) {
	if !May(a) || sector < 0 || sector >= api.Sectors {
		return "", api.ErrCellForm
	}
	cells := []byte(a)
	start := sector * api.SectorSize
	for i := range api.SectorSize {
		cells[start+i] |= maskByte(mask, i)
	}
	return string(cells), api.OK
}

// fits tells whether n bytes from at on lie within the cells. At is held against a difference, since a sum with a very great at would wrap round.
func fits(at, n int) bool {
	return at >= 0 && at <= api.Size-n
}

// maskByte is the mask's byte for the i-th byte of what is cut; the mask goes over and over.
func maskByte(mask string, i int) byte {
	if mask == "" {
		return 0
	}
	return mask[i%len(mask)]
}
