package sfdp

// taker takes a text part by part from its front. Once a part is not as it must be the text is wrong for good, so it is enough to ask behind the last part.
type taker struct {
	rest  string
	wrong bool
}

// take takes n bytes, or none where there are fewer.
func (t *taker) take(n int) string {
	if len(t.rest) < n {
		t.wrong = true
		return ""
	}
	part := t.rest[:n]
	t.rest = t.rest[n:]
	return part
}

// same takes a part that must be just this one.
func (t *taker) same(want string) {
	if t.take(len(want)) != want {
		t.wrong = true
	}
}

// number takes a number that may be put. The bytes come the lowest first, so the last one goes in first.
func (t *taker) number() int {
	part := t.take(numberBytes)
	n := 0
	for i := len(part) - 1; i >= 0; i-- {
		n = n<<byteBits | int(part[i])
	}
	if !may(n) {
		t.wrong = true
	}
	return n
}

// whole tells whether all parts were as they must be, and nothing is left behind them.
func (t *taker) whole() bool {
	return !t.wrong && t.rest == ""
}
