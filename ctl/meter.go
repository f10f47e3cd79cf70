package ctl

// meter is what a controller knows of its clocks and its power. Its zero value is no clocks, no bound, and power.
type meter struct {
	clocks  int
	bounded bool
	left    int // how many clocks there may be still, if bounded
	lost    bool
}

// bound lets there be so many clocks more, whatever bound there was.
func (m *meter) bound(clocks int) {
	m.bounded, m.left = true, clocks
}

// most is how many clocks there may be still; below 0, if there is no bound.
func (m *meter) most() int {
	if !m.bounded {
		return -1
	}
	return m.left
}

// count adds clocks that there were. They are never more than there may be.
func (m *meter) count(clocks int) {
	m.clocks += clocks
	if m.bounded {
		m.left -= clocks
	}
}
