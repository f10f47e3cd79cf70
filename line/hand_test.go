package line

import (
	"math"
	"slices"
	"testing"
	"unsafe"

	"lichen/api"
)

// spot is a line by hand: where it begins, its bytes.
type spot struct {
	at   int
	text string
}

// hand is a cache by hand: arrays are copied where they are assigned, so that nothing of it is shared.
type hand struct {
	lines [2]spot
	next  int
}

// blank is a cache by hand in which nothing is kept.
func blank() hand {
	return hand{lines: [2]spot{{-1, ""}, {-1, ""}}}
}

// keep is what Keep must do.
func (h hand) keep(at int, s string) hand {
	for i := range h.lines {
		if h.lines[i].at == at {
			h.lines[i].text = s
			return h
		}
	}
	h.lines[h.next] = spot{at, s}
	h.next = 1 - h.next
	return h
}

// find goes over each byte of each line.
func (h hand) find(at int) (int, bool) {
	for _, l := range h.lines {
		for i := range len(l.text) {
			if l.at+i == at {
				return int(l.text[i]), true
			}
		}
	}
	return 0, false
}

// cache is the hand's cache, in memory of its own.
func (h hand) cache() api.Cache {
	return api.Cache{At: []int{h.lines[0].at, h.lines[1].at}, Text: []string{h.lines[0].text, h.lines[1].text}, Next: h.next}
}

// roomy is the hand's cache with spare room behind the ends of its lists.
func (h hand) roomy() api.Cache {
	c := h.cache()
	c.At = append(c.At, 7000, 7001, 7002)[:2]
	c.Text = append(c.Text, "spare", "room", "behind")[:2]
	return c
}

// text16 is a line's bytes, others for each seed.
func text16(seed int) string {
	b := make([]byte, 16)
	for i := range b {
		b[i] = byte(seed*31 + i*7)
	}
	return string(b)
}

// hands are caches that may be: nothing kept, one line in each place, two lines next to each other, far off, and at both ends; with Next at each number.
func hands() []hand {
	var hs []hand
	for _, at := range [][2]int{{-1, -1}, {0, -1}, {-1, 0}, {4080, -1}, {-1, 4080}, {160, -1}, {-1, 160}, {0, 16}, {16, 0}, {0, 4080}, {4080, 0}, {4064, 4080}, {4080, 4064}, {512, 2048}, {2048, 512}} {
		for next := range 2 {
			h := hand{next: next}
			for i := range at {
				h.lines[i].at = at[i]
				if at[i] >= 0 {
					h.lines[i].text = text16(at[i] + i)
				}
			}
			hs = append(hs, h)
		}
	}
	return hs
}

// wrongPlaces are places at which no line may begin (-1 is one that has none).
func wrongPlaces() []int {
	return []int{
		-2, -15, -16, -17, -32, -4096, -4080, math.MinInt, math.MinInt + 1, math.MinInt + 16, -1 << 32, -1<<32 + 16,
		1, 2, 8, 15, 17, 24, 31, 161, 4079, 4081, 4088, 4095,
		4096, 4097, 4111, 4112, 8192, 1 << 16, 1 << 32, 1<<32 + 16, 1 << 62, math.MaxInt, math.MaxInt - 15, math.MaxInt - 1,
	}
}

// wrongTexts are texts that are no line's.
func wrongTexts() []string {
	long := text16(1) + text16(2)
	return []string{"", "x", long[:8], long[:15], long[:17], long[:31], long, "\x00", "éééééééé\x00", "ééééééé"}
}

// wrong is a cache that may not be.
type wrong struct {
	name string
	c    api.Cache
}

// wrongs are caches of which one thing is wrong, each made of one that may be.
func wrongs() []wrong {
	var ws []wrong
	for _, h := range hands() {
		ws = append(ws, wrongCounts(h)...)
		ws = append(ws, wrongLines(h)...)
	}
	s := text16(5)
	for _, at := range []int{0, 16, 160, 4080} {
		for next := range 2 {
			ws = append(ws, wrong{"two at one place", api.Cache{At: []int{at, at}, Text: []string{s, s}, Next: next}})
			ws = append(ws, wrong{"two at one place with other bytes", api.Cache{At: []int{at, at}, Text: []string{s, text16(6)}, Next: next}})
		}
	}
	return append(ws, wrong{"nothing", api.Cache{}}, wrong{"nothing but Next", api.Cache{Next: 1}})
}

// wrongCounts turns how many there are, and Next.
func wrongCounts(h hand) []wrong {
	var ws []wrong
	turn := func(name string, change func(c *api.Cache)) {
		c := h.cache()
		change(&c)
		ws = append(ws, wrong{name, c})
	}
	for n := range 2 {
		turn("too few of At", func(c *api.Cache) { c.At = c.At[:n] })
		turn("too few of Text", func(c *api.Cache) { c.Text = c.Text[:n] })
		turn("too few of both", func(c *api.Cache) { c.At, c.Text = c.At[:n], c.Text[:n] })
	}
	turn("no At", func(c *api.Cache) { c.At = nil })
	turn("no Text", func(c *api.Cache) { c.Text = nil })
	turn("too many of At", func(c *api.Cache) { c.At = append(c.At, -1) })
	turn("too many of At, with a place", func(c *api.Cache) { c.At = append(c.At, 1024) })
	turn("too many of Text", func(c *api.Cache) { c.Text = append(c.Text, "") })
	turn("too many of Text, with bytes", func(c *api.Cache) { c.Text = append(c.Text, text16(9)) })
	turn("too many of both", func(c *api.Cache) { c.At, c.Text = append(c.At, -1), append(c.Text, "") })
	turn("too many of both, with a line", func(c *api.Cache) { c.At, c.Text = append(c.At, 1024), append(c.Text, text16(9)) })
	for _, next := range []int{-1, -2, 2, 3, 16, 1 << 32, -1 << 32, math.MinInt, math.MaxInt} {
		turn("Next", func(c *api.Cache) { c.Next = next })
	}
	return ws
}

// wrongLines turns each of the lines.
func wrongLines(h hand) []wrong {
	var ws []wrong
	turn := func(name string, i, at int, text string) {
		c := h.cache()
		c.At[i], c.Text[i] = at, text
		ws = append(ws, wrong{name, c})
	}
	for i := range 2 {
		for _, at := range wrongPlaces() {
			turn("a line at a wrong place", i, at, text16(3))
			turn("no text at a wrong place", i, at, "")
		}
		for _, text := range wrongTexts() {
			turn("a wrong text", i, 1024, text)
			if text != "" {
				turn("a text of a line that is nowhere", i, -1, text)
			}
		}
		turn("a whole text of a line that is nowhere", i, -1, text16(3))
	}
	return ws
}

// same: an empty list and nil are one.
func same(a, b api.Cache) bool {
	return slices.Equal(a.At, b.At) && slices.Equal(a.Text, b.Text) && a.Next == b.Next
}

// none: a cache beside an error (R2).
func none(c api.Cache) bool {
	return len(c.At) == 0 && len(c.Text) == 0 && c.Next == 0
}

// places are from well below 0 to well beyond Size.
func places() []int {
	var ats []int
	for at := -70; at < 4096+70; at++ {
		ats = append(ats, at)
	}
	return append(ats, math.MinInt, math.MinInt+1, math.MinInt+15, math.MinInt+16, -1<<32, -1<<32-1, 1<<32, 1<<32+1, 1<<62, math.MaxInt-16, math.MaxInt-15, math.MaxInt-1, math.MaxInt)
}

// checkFinds asks c for each place.
func checkFinds(t *testing.T, c api.Cache, h hand) {
	t.Helper()
	for _, at := range places() {
		want, is := h.find(at)
		if got, has := Find(c, at); got != want || has != is {
			t.Fatalf("P12.1: Find(%v, %d): %d, %t; wanted %d, %t", c, at, got, has, want, is)
		}
	}
}

// checkKeep keeps s in c, which is h's cache, and holds the answer against h's. C stays as it was (R4).
func checkKeep(t *testing.T, c api.Cache, h hand, at int, s string) api.Cache {
	t.Helper()
	d, e := Keep(c, at, s)
	if want := h.keep(at, s).cache(); e != api.OK || !same(d, want) {
		t.Fatalf("P12.2: Keep(%v, %d, %q): %v, error %d; wanted %v", h, at, s, d, e, want)
	}
	if !same(c, h.cache()) {
		t.Fatalf("R4: Keep(%v, %d, ..) changed what was handed in: %v", h, at, c)
	}
	if !May(d) {
		t.Fatalf("P12.1: %v, which Keep told, may not be", d)
	}
	return d
}

// refuseKeep wants the form error, and beside it no cache (R2).
func refuseKeep(t *testing.T, what string, c api.Cache, at int, s string) {
	t.Helper()
	if d, e := Keep(c, at, s); e != api.ErrLineForm || !none(d) {
		t.Errorf("P12.2: %s: Keep(%v, %d, %q): %v, error %d; wanted none, error %d", what, c, at, s, d, e, api.ErrLineForm)
	}
}

// scribble writes over all that a cache's lists hold, their spare room too.
func scribble(c api.Cache) {
	for i := range c.At[:cap(c.At)] {
		c.At[:cap(c.At)][i] = -9
	}
	for i := range c.Text[:cap(c.Text)] {
		c.Text[:cap(c.Text)][i] = "scribbled over"
	}
}

// overlap tells whether two texts have a byte of memory in common.
func overlap(a, b string) bool {
	if a == "" || b == "" {
		return false
	}
	x, y := uintptr(unsafe.Pointer(unsafe.StringData(a))), uintptr(unsafe.Pointer(unsafe.StringData(b)))
	return x < y+uintptr(len(b)) && y < x+uintptr(len(a))
}
