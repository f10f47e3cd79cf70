package ctl

import (
	"lichen/api"
	"lichen/fifo"
)

// byteEnd is the first number that is no byte.
const byteEnd = 256

// registers are RegCommand, RegAddress and RegLength, each at its number.
type registers [api.RegLength + 1]int

// Write writes a register; what is written to RegData waits to go to the chip.
func (c *Ctl) Write(reg int, x int) api.Errno {
	if c == nil {
		return api.ErrNil
	}
	if c.lost {
		return api.ErrCtlState
	}
	if x < 0 || x >= end(reg) {
		return api.ErrCtlForm
	}
	if reg == api.RegData {
		return c.goes.Push(x)
	}
	c.regs[reg] = x
	return api.OK
}

// Read reads a register; what is read of RegData is what came from the chip first.
func (c *Ctl) Read(reg int) (int, api.Errno) {
	if c == nil {
		return 0, api.ErrNil
	}
	if c.lost {
		return 0, api.ErrCtlState
	}
	switch reg {
	case api.RegCommand, api.RegAddress, api.RegLength:
		return c.regs[reg], api.OK
	case api.RegState:
		return c.came.Len(), api.OK
	case api.RegData:
		return c.came.Pop()
	}
	return 0, api.ErrCtlForm
}

// Go runs the command that the registers tell, with all the bytes that wait to go; what it reads waits to be taken.
func (c *Ctl) Go() api.Errno {
	if c == nil {
		return api.ErrNil
	}
	if c.lost {
		return api.ErrCtlState
	}
	read := c.regs[api.RegLength]
	if c.came.Len()+read > api.MaxFifo {
		return api.ErrFifoFull
	}
	xs, e := c.Run(c.regs[api.RegCommand], c.regs[api.RegAddress], all(c.goes), read)
	if e == api.ErrCtlState {
		return e
	}
	c.goes = fifo.Fifo{}
	for _, x := range xs {
		c.came.Push(x)
	}
	return e
}

// end is the first number that is too great for a register; 0, if none may be written to it.
func end(reg int) int {
	switch reg {
	case api.RegCommand, api.RegAddress:
		return api.Size
	case api.RegLength:
		return api.MaxFifo + 1
	case api.RegData:
		return byteEnd
	}
	return 0
}

// all are the bytes of a queue, in their row. It is handed in as a copy, so that the queue itself keeps them.
func all(q fifo.Fifo) []int {
	xs := make([]int, q.Len())
	for i := range xs {
		xs[i], _ = q.Pop()
	}
	return xs
}
