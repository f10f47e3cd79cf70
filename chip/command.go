package chip

import (
	"strings"

	"lichen/api"
	"lichen/op"
)

// The parts of a command, in the row in which they come. Data go on byte by byte as long as there are clocks; behind a command without data is its end.
const (
	partByte = iota
	partAddress
	partMode
	partDummy
	partData
	partEnd
)

const (
	byteBits    = 8
	addressBits = 24
	// otherLanes are the lanes that stay up where a bit is told on one lane.
	otherLanes = 13
	// unset is a byte that a program leaves as it is.
	unset = "\xff"
	// idBytes is what OpId tells.
	idBytes = "\xef\x40\x0c"
)

// command is what has come of one since Select.
type command struct {
	op     api.Op // without a byte: none is taken
	part   int
	clocks int // of the part, or of the data byte
	bits   int // that came in these clocks
	at     int
	mode   int // 0, unless all mode bits are there
	count  int // data bytes that are whole
	data   [api.Page]byte
	said   int // the data byte that the chip is telling
}

// over is on how many lanes, in how many clocks bits come; without lanes they do not.
func over(lanes, bits int) (int, int) {
	if lanes == 0 {
		return 0, 0
	}
	return lanes, bits / lanes
}

// split is how many lanes and clocks the part has (data: each byte of them); 0, 0, if the command has no such part.
func (k *command) split() (lanes int, clocks int) {
	switch k.part {
	case partByte:
		return over(1, byteBits)
	case partAddress:
		return over(k.op.Addr, addressBits)
	case partMode:
		if k.op.Mode {
			return over(k.op.Addr, byteBits)
		}
	case partDummy:
		return over(1, k.op.Dummy)
	case partData:
		return over(k.op.Data, byteBits)
	}
	return 0, 0
}

// turn goes on to the next part that the command has. What is not taken has none but the end, where no clock means anything.
func (k *command) turn() {
	k.clocks, k.bits = 0, 0
	for k.part < partEnd {
		k.part++
		if _, clocks := k.split(); clocks > 0 {
			return
		}
	}
}

// whole tells whether the command ended where it may: with its last part, and with no clock of a further one.
func (k *command) whole() bool {
	return k.part >= partData && k.clocks == 0
}

// speaks tells whether the chip has the word.
func (k *command) speaks() bool {
	return k.part == partData && !k.op.In
}

// pageText makes the bytes of a page that is programmed. Data bytes that are Page bytes apart come to one place, where the later one was kept.
func (k *command) pageText() string {
	page := []byte(strings.Repeat(unset, api.Page))
	for i := range min(k.count, api.Page) {
		page[(k.at+i)%api.Page] = k.data[i]
	}
	return string(page)
}

// around is the byte of a text that goes over and over from the address on. A chip that New did not make has no cells to tell of.
func (k *command) around(text string) int {
	if text == "" {
		text = unset
	}
	return int(text[(k.at+k.count)%len(text)])
}

// hear takes what the lanes have into the part that is coming.
func (c *Chip) hear(in int) {
	lanes, clocks := c.split()
	c.bits = c.bits<<lanes | in&(1<<lanes-1)
	c.clocks++
	if c.clocks == clocks {
		c.complete()
	}
}

// complete keeps what a part said, now that it is whole.
func (c *Chip) complete() {
	switch c.part {
	case partByte:
		c.take(c.bits)
		return
	case partAddress:
		c.at = c.bits % api.Size
	case partMode:
		c.mode = c.bits
	case partData:
		c.data[c.count%api.Page] = byte(c.bits)
		c.count++
		c.clocks, c.bits = 0, 0
		return
	}
	c.turn()
}

// take goes on behind a command's byte, with the command's parts if it is taken. For a byte that is no command Of answers one without parts, so that it comes to the same as one that is not taken.
func (c *Chip) take(b int) {
	if c.takes(b) {
		c.op, _ = op.Of(b)
	}
	c.turn()
}

// takes tells whether the chip, as things are, listens to a command that has this byte.
func (c *Chip) takes(b int) bool {
	switch b {
	case api.OpStatus, api.OpStatus2, api.OpSuspend:
		return true
	case api.OpStatusPut, api.OpProgram, api.OpErase:
		return !c.under.goes()
	case api.OpQuadOut, api.OpQuadIo:
		return c.quad && !c.busy()
	}
	return !c.busy()
}

// tell says the next bits of the data.
func (c *Chip) tell() int {
	if c.clocks == 0 {
		c.said = c.dataByte()
	}
	lanes, clocks := c.split()
	c.clocks++
	out := c.said >> (byteBits - c.clocks*lanes) & (1<<lanes - 1)
	if c.clocks == clocks {
		c.clocks = 0
		c.count++
	}
	if lanes == 1 {
		return otherLanes | out<<1
	}
	return out
}

// dataByte is the data byte that begins now.
func (c *Chip) dataByte() int {
	first, second := c.Status()
	switch c.op.Byte {
	case api.OpId:
		return c.around(idBytes)
	case api.OpStatus:
		return first
	case api.OpStatus2:
		return second
	case api.OpSfdp:
		return c.around(c.like())
	}
	return c.around(c.cells)
}
