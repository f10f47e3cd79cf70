package sfdp

import (
	"bytes"
	"math"
	"strings"
	"sync"
	"testing"

	"lichen/api"
)

// checkPut wants the bytes of three numbers.
func checkPut(t *testing.T, size, sector, page int, want string) {
	t.Helper()
	if got, e := Put(size, sector, page); e != api.OK || got != want {
		t.Errorf("P7.1: Put(%d, %d, %d): %q, error %d; wanted %q", size, sector, page, got, e, want)
	}
}

// refusePut wants the form error, and nothing beside it (R2).
func refusePut(t *testing.T, size, sector, page int) {
	t.Helper()
	if got, e := Put(size, sector, page); e != api.ErrSfdpForm || got != "" {
		t.Errorf("P7.1: Put(%d, %d, %d): %q, error %d; wanted nothing, error %d", size, sector, page, got, e, api.ErrSfdpForm)
	}
}

// checkGet wants three numbers.
func checkGet(t *testing.T, s string, want sizes) {
	t.Helper()
	if size, sector, page, e := Get(s); e != api.OK || (sizes{size, sector, page}) != want {
		t.Errorf("P7.1: Get(%q): %d, %d, %d, error %d; wanted %v", s, size, sector, page, e, want)
	}
}

// refuseGet wants the form error, and nothing beside it (R2).
func refuseGet(t *testing.T, s string) {
	t.Helper()
	if size, sector, page, e := Get(s); e != api.ErrSfdpForm || (sizes{size, sector, page}) != (sizes{}) {
		t.Errorf("P7.1: Get(%q): %d, %d, %d, error %d; wanted nothing, error %d", s, size, sector, page, e, api.ErrSfdpForm)
	}
}

// sizes are the numbers of a chip: size, sector, page.
type sizes [3]int

// laid is what the document lays for three numbers, whether they may be put or not.
func laid(of sizes) string {
	text := []byte{'S', 'F', 'D', 'P', 6, 1, 0, 255}
	for _, n := range of {
		text = append(text, byte(n), byte(n>>8), byte(n>>16), byte(n>>24))
	}
	for len(text) < 32 {
		text = append(text, 255)
	}
	return string(text)
}

// each goes through all numbers that may be put.
func each(yield func(sizes) bool) {
	for i := range 17 {
		for j := range 17 {
			for k := range 17 {
				if !yield(sizes{1 << i, 1 << j, 1 << k}) {
					return
				}
			}
		}
	}
}

// allLaid are all texts that Put may tell, each with its numbers.
func allLaid() map[string]sizes {
	all := map[string]sizes{}
	for of := range each {
		all[laid(of)] = of
	}
	return all
}

// wrong are numbers that may not be put. Of some a part is a power of 2, of the least int a bit is all.
func wrong() []int {
	return []int{
		0, -1, 3, 5, 6, 7, 511, 513, 65535, 65537, 1<<16 + 1<<15, 1 << 17, 3 << 16, 1 << 24, 1 << 31,
		1 << 32, 1<<32 + 1, 1<<32 + 512, 1<<33 + 65536, 1 << 62, -2, -512, -65536, math.MinInt + 512, math.MinInt, math.MaxInt,
	}
}

// good are texts that Put tells, with numbers low and high at each place.
func good() []sizes {
	return []sizes{
		{api.Size, api.SectorSize, api.Page}, {1, 1, 1}, {65536, 65536, 65536}, {256, 1, 65536}, {2, 32768, 128}, {65536, 4, 1},
	}
}

func TestPutByNumber(t *testing.T) {
	rest := strings.Repeat("\xff", 12)
	checkPut(t, 4096, 512, 32, "SFDP\x06\x01\x00\xff\x00\x10\x00\x00\x00\x02\x00\x00\x20\x00\x00\x00"+rest)
	checkPut(t, 1, 65536, 256, "SFDP\x06\x01\x00\xff\x01\x00\x00\x00\x00\x00\x01\x00\x00\x01\x00\x00"+rest)
}

// Any three powers of 2 may be put, whichever is the greatest.
func TestPut(t *testing.T) {
	for of := range each {
		checkPut(t, of[0], of[1], of[2], laid(of))
	}
}

func TestPutWrong(t *testing.T) {
	for _, n := range wrong() {
		refusePut(t, n, 512, 32)
		refusePut(t, 4096, n, 32)
		refusePut(t, 4096, 512, n)
		refusePut(t, n, n, n)
	}
	for n := range 1<<18 + 1 {
		if n == 0 || n&(n-1) != 0 || n > 65536 {
			refusePut(t, n, 1, 65536)
			refusePut(t, 4096, n, 32)
			refusePut(t, 65536, 1, n)
		}
	}
}

func TestGetByNumber(t *testing.T) {
	rest := strings.Repeat("\xff", 12)
	checkGet(t, "SFDP\x06\x01\x00\xff\x00\x10\x00\x00\x00\x02\x00\x00\x20\x00\x00\x00"+rest, sizes{4096, 512, 32})
	checkGet(t, "SFDP\x06\x01\x00\xff\x01\x00\x00\x00\x00\x00\x01\x00\x00\x01\x00\x00"+rest, sizes{1, 65536, 256})
}

// What was put is told again.
func TestGet(t *testing.T) {
	for of := range each {
		checkGet(t, laid(of), of)
		s, _ := Put(of[0], of[1], of[2])
		checkGet(t, s, of)
	}
}

// A text has just SfdpSize bytes, whatever it lacks or has more.
func TestGetOfOtherLengths(t *testing.T) {
	refuseGet(t, "")
	refuseGet(t, "SFDP")
	for _, of := range good() {
		s := laid(of)
		for n := range len(s) {
			refuseGet(t, s[:n])
			refuseGet(t, s[n+1:])
			refuseGet(t, s[:n]+s[n+1:])
			refuseGet(t, s[:n]+s[n:n+1]+s[n:])
		}
		for _, more := range []string{"\xff", "\x00", "x", s, strings.Repeat("\xff", 32), strings.Repeat("\xff", 1<<20)} {
			refuseGet(t, s+more)
			refuseGet(t, more+s)
		}
	}
	for n := range 100 {
		refuseGet(t, strings.Repeat("\x00", n))
		refuseGet(t, strings.Repeat("\xff", n))
	}
}

// A text with one other byte is told just if it is one of those that Put tells, as other numbers then.
func TestGetWithOneByteTurned(t *testing.T) {
	all := allLaid()
	other := 0
	for _, of := range good() {
		for i := range api.SfdpSize {
			for turn := 1; turn < 256; turn++ {
				text := []byte(laid(of))
				text[i] ^= byte(turn)
				want, is := all[string(text)]
				if !is {
					refuseGet(t, string(text))
					continue
				}
				other++
				checkGet(t, string(text), want)
			}
		}
	}
	if other == 0 {
		t.Error("no turned byte came to other numbers")
	}
}

// A number that fits in four bytes but may not be put is refused at each place.
func TestGetOfWrongNumbers(t *testing.T) {
	numbers := []int{1<<32 - 1, 1<<31 + 1, 1<<31 + 65536, 1 << 30, 1<<24 + 1, 1<<24 + 65536, 1<<16 + 256, 257}
	numbers = append(numbers, wrong()...)
	for n := range 1<<18 + 1 {
		numbers = append(numbers, n)
	}
	all := allLaid()
	for _, n := range numbers {
		for place := range 3 {
			of := sizes{api.Size, api.SectorSize, api.Page}
			of[place] = n
			if want, is := all[laid(of)]; is {
				checkGet(t, laid(of), want)
			} else {
				refuseGet(t, laid(of))
			}
		}
	}
}

// The head and the bytes behind the numbers are held whole.
func TestGetOfOtherTexts(t *testing.T) {
	s := laid(sizes{api.Size, api.SectorSize, api.Page})
	refuseGet(t, strings.ToLower(s[:4])+s[4:])
	refuseGet(t, strings.Repeat("\x00", 8)+s[8:])
	refuseGet(t, s[:20]+strings.Repeat("\x00", 12))
	refuseGet(t, s[20:]+s[:20])
	for i := range 3 {
		reversed := []byte(s)
		number := reversed[8+4*i : 12+4*i]
		number[0], number[1], number[2], number[3] = number[3], number[2], number[1], number[0]
		if bytes.Equal(reversed, []byte(s)) {
			t.Fatal("the number is the same from behind")
		}
		refuseGet(t, string(reversed))
	}
}

// Texts of any bytes, of lengths around SfdpSize and below, none of which has the head.
func TestGetOfAnyBytes(t *testing.T) {
	x := uint64(1)
	for range 20000 {
		text := make([]byte, x>>40%40)
		for i := range text {
			x = x*6364136223846793005 + 1442695040888963407
			text[i] = byte(x >> 56)
		}
		x = x*6364136223846793005 + 1442695040888963407
		refuseGet(t, string(text))
	}
}

func TestManyAtOnce(t *testing.T) {
	var group sync.WaitGroup
	for i := range 17 {
		group.Go(func() {
			of := sizes{1 << i, 1, 2}
			checkPut(t, of[0], of[1], of[2], laid(of))
			checkGet(t, laid(of), of)
			refusePut(t, 1<<i, 0, 2)
			refuseGet(t, laid(sizes{1 << i, 0, 2}))
		})
	}
	group.Wait()
}
