package line

import (
	"math"
	"strings"
	"sync"
	"testing"

	"lichen/api"
)

func TestKeepByHand(t *testing.T) {
	a, b, c := text16(1), text16(2), text16(3)
	want := []api.Cache{
		{At: []int{32, -1}, Text: []string{a, ""}, Next: 1},
		{At: []int{32, 4080}, Text: []string{a, b}, Next: 0},
		{At: []int{32, 4080}, Text: []string{c, b}, Next: 0},
		{At: []int{0, 4080}, Text: []string{a, b}, Next: 1},
		{At: []int{0, 4080}, Text: []string{a, c}, Next: 1},
		{At: []int{0, 32}, Text: []string{a, a}, Next: 0},
	}
	got := New()
	for i, l := range []spot{{32, a}, {4080, b}, {32, c}, {0, a}, {4080, c}, {32, a}} {
		d, e := Keep(got, l.at, l.text)
		if e != api.OK || !same(d, want[i]) {
			t.Fatalf("P12.2: Keep %d: %v, error %d; wanted %v", i, d, e, want[i])
		}
		got = d
	}
}

// TestKeepRound: new places, so often that the lines go round, from each number of Next on: the line that was kept first is lost first.
func TestKeepRound(t *testing.T) {
	for next := range 2 {
		h := blank()
		h.next = next
		c := h.cache()
		for n := range 256 {
			at, s := n*16, text16(n)
			c = checkKeep(t, c, h, at, s)
			h = h.keep(at, s)
			if n >= 2 {
				if got, has := Find(c, at-32); got != 0 || has {
					t.Fatalf("P12.2: the line at %d is still there: %v", at-32, c)
				}
			}
			if n >= 1 {
				if got, has := Find(c, at-16); got != int(text16(n - 1)[0]) || !has {
					t.Fatalf("P12.2: the line at %d is there no more: %v", at-16, c)
				}
			}
		}
		checkFinds(t, c, h)
	}
}

// TestKeepEachPlace: into each cache that may be, at each place there is, be it one that a line has or one that none has.
func TestKeepEachPlace(t *testing.T) {
	for _, h := range hands() {
		for at := 0; at < 4096; at += 16 {
			checkKeep(t, h.cache(), h, at, text16(at+99))
		}
	}
}

// TestKeepAgain: a place that a line has; that line alone turns, and Next stays.
func TestKeepAgain(t *testing.T) {
	for i := range 2 {
		for next := range 2 {
			h := hand{lines: [2]spot{{64, text16(1)}, {128, text16(2)}}, next: next}
			want := h.cache()
			want.Text[i] = text16(3)
			for range 2 {
				if d, e := Keep(h.cache(), h.lines[i].at, text16(3)); e != api.OK || !same(d, want) {
					t.Errorf("P12.2: Keep(%v, %d, ..): %v, error %d; wanted %v", h, h.lines[i].at, d, e, want)
				}
			}
			if d, e := Keep(h.cache(), h.lines[i].at, h.lines[i].text); e != api.OK || !same(d, h.cache()) {
				t.Errorf("P12.2: Keep(%v, %d, ..) of what the line has: %v, error %d", h, h.lines[i].at, d, e)
			}
		}
	}
}

// TestKeepIsFound: what was kept is found byte by byte, and what lies in the other line as before.
func TestKeepIsFound(t *testing.T) {
	texts := []string{text16(7), strings.Repeat("\x00", 16), strings.Repeat("\xff", 16), "\x00\xff\x00\xff\x00\xff\x00\xff\x00\xff\x00\xff\x00\xff\x00\xff", "ééééfünfäöü"[:16]}
	for _, h := range hands() {
		for _, at := range []int{0, 16, 32, 512, 2048, 4064, 4080} {
			for _, s := range texts {
				d := checkKeep(t, h.cache(), h, at, s)
				for i := range 16 {
					if got, has := Find(d, at+i); got != int(s[i]) || !has {
						t.Fatalf("P12.2: Find(%v, %d): %d, %t; wanted %d", d, at+i, got, has, s[i])
					}
				}
			}
			checkFinds(t, checkKeep(t, h.cache(), h, at, texts[0]), h.keep(at, texts[0]))
		}
	}
}

func TestKeepRefusesPlaces(t *testing.T) {
	for _, h := range hands() {
		for _, at := range append(wrongPlaces(), -1) {
			for _, s := range []string{text16(1), "", "x"} {
				refuseKeep(t, "a wrong place", h.cache(), at, s)
			}
		}
	}
	h := hands()[3]
	for _, at := range places() {
		if at < 0 || at >= 4096 || at&15 != 0 {
			refuseKeep(t, "a wrong place", h.cache(), at, text16(1))
		}
	}
}

func TestKeepRefusesTexts(t *testing.T) {
	for _, h := range hands() {
		for _, at := range []int{0, 16, 160, 512, 1024, 2048, 4064, 4080} {
			for _, s := range append(wrongTexts(), strings.Repeat("x", 4096)) {
				refuseKeep(t, "a wrong text", h.cache(), at, s)
			}
		}
	}
}

func TestKeepRefusesCaches(t *testing.T) {
	for _, w := range wrongs() {
		for _, at := range []int{0, 16, 64, 160, 1024, 4080, -1, 4096, math.MinInt} {
			for _, s := range []string{text16(1), "", "x"} {
				refuseKeep(t, w.name, w.c, at, s)
			}
		}
	}
}

// TestKeepTurnsNothing: what is handed in stays as it was, its spare room too, where Keep does it and where it refuses (R4, R5).
func TestKeepTurnsNothing(t *testing.T) {
	for _, h := range hands() {
		c := h.roomy()
		for _, at := range []int{0, 16, 160, 4080, 8, -1, -16, 4096} {
			Keep(c, at, text16(8))
			Keep(c, at, "x")
			checkRoomy(t, c, h)
		}
		broken := h.roomy()
		broken.Next = 2
		Keep(broken, 0, text16(8))
		broken.Next = h.next
		checkRoomy(t, broken, h)
	}
}

// TestKeepAnswersAnew: an answer that is written over leaves what was handed in, an earlier answer and a later one as they are (R4).
func TestKeepAnswersAnew(t *testing.T) {
	for _, h := range hands() {
		for _, at := range []int{0, 16, 160, 1024, 4080} {
			c, s := h.roomy(), text16(8)
			first := checkKeep(t, c, h, at, s)
			second := checkKeep(t, c, h, at, s)
			behind := checkKeep(t, first, h.keep(at, s), 2000, text16(9))
			scribble(second)
			scribble(behind)
			if !same(first, h.keep(at, s).cache()) {
				t.Errorf("R4: answers of Keep share memory: %v", first)
			}
			checkRoomy(t, c, h)
			scribble(c)
			if !same(first, h.keep(at, s).cache()) {
				t.Errorf("R4: an answer of Keep shares memory with what was handed in: %v", first)
			}
			checkKeep(t, h.cache(), h, at, s)
		}
	}
}

// TestKeepTextsAnew: the texts, too, are other memory than those that were handed in, than each other, and than those of another answer (R4).
func TestKeepTextsAnew(t *testing.T) {
	for _, h := range hands() {
		for _, at := range []int{0, 16, 160, 1024, 4080} {
			c, s := h.cache(), text16(8)
			first := checkKeep(t, c, h, at, s)
			second := checkKeep(t, c, h, at, s)
			for i := range 2 {
				if overlap(first.Text[i], s) {
					t.Errorf("R4: text %d of Keep(%v, %d, ..) is the one that was handed in", i, h, at)
				}
				for k := range 2 {
					if overlap(first.Text[i], c.Text[k]) || overlap(first.Text[i], second.Text[k]) || i != k && overlap(first.Text[i], first.Text[k]) {
						t.Errorf("R4: texts %d and %d behind Keep(%v, %d, ..) share memory", i, k, h, at)
					}
				}
			}
		}
	}
}

// TestWalks: long rows of keeps by chance, refused ones among them, against the cache by hand.
func TestWalks(t *testing.T) {
	seed := uint64(12)
	chance := func(n int) int {
		seed = seed*6364136223846793005 + 1442695040888963407
		return int(seed >> 33 % uint64(n))
	}
	wrongAts, wrongSs := wrongPlaces(), wrongTexts()
	for _, spread := range []int{2, 3, 5, 256} {
		c, h := New(), blank()
		again := 0
		for n := range 4000 {
			at, s := chance(spread)*16, text16(chance(1000))
			switch chance(8) {
			case 0:
				refuseKeep(t, "a wrong place", c, wrongAts[chance(len(wrongAts))], s)
			case 1:
				refuseKeep(t, "a wrong text", c, at, wrongSs[chance(len(wrongSs))])
			default:
				if _, has := h.find(at); has {
					again++
				}
				c = checkKeep(t, c, h, at, s)
				h = h.keep(at, s)
			}
			if n%400 == 0 {
				checkFinds(t, c, h)
			}
		}
		if again < 10 {
			t.Errorf("of %d places one that a line has came %d times: too few to tell", spread, again)
		}
	}
}

// TestManyAtOnce: several goroutines ask of one cache at one time; the race detector would tell what they write (R5).
func TestManyAtOnce(t *testing.T) {
	h := hand{lines: [2]spot{{64, text16(1)}, {128, text16(2)}}, next: 1}
	c := h.roomy()
	var all sync.WaitGroup
	for g := range 8 {
		all.Go(func() {
			for n := range 300 {
				at, s := n%256*16, text16(g*1000+n)
				d, e := Keep(c, at, s)
				if e != api.OK || !same(d, h.keep(at, s).cache()) {
					t.Errorf("R5: Keep(%v, %d, ..): %v, error %d", h, at, d, e)
					return
				}
				if got, has := Find(c, 64+n%16); got != int(text16(1)[n%16]) || !has || !May(c) || !May(New()) {
					t.Errorf("R5: Find(%v, %d): %d, %t", h, 64+n%16, got, has)
					return
				}
				scribble(d)
			}
		})
	}
	all.Wait()
}
