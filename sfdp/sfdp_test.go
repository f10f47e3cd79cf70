package sfdp

import (
	"math"
	"strings"
	"sync"
	"testing"

	"lichen/api"
)

// checkPut wants the bytes of three numbers.
func checkPut(t *testing.T, size, sector, page int, want string) {
	t.Helper()
	if got, e := Put(size, sector, page); e != api.OK || got != want {
		t.Errorf("P7.1: Put(%d, %d, %d): %q, error %d; wanted %q", size, sector, page, got, e, want)
	}
}

// refusePut wants the form error, and nothing beside it (R2).
func refusePut(t *testing.T, size, sector, page int) {
	t.Helper()
	if got, e := Put(size, sector, page); e != api.ErrSfdpForm || got != "" {
		t.Errorf("P7.1: Put(%d, %d, %d): %q, error %d; wanted nothing, error %d", size, sector, page, got, e, api.ErrSfdpForm)
	}
}

// four are a number's bytes, the lowest first.
func four(n int) string {
	return string([]byte{byte(n), byte(n >> 8), byte(n >> 16), byte(n >> 24)})
}

func TestPutByNumber(t *testing.T) {
	rest := strings.Repeat("\xff", 12)
	checkPut(t, 4096, 512, 32, "SFDP\x06\x01\x00\xff\x00\x10\x00\x00\x00\x02\x00\x00\x20\x00\x00\x00"+rest)
	checkPut(t, 1, 65536, 256, "SFDP\x06\x01\x00\xff\x01\x00\x00\x00\x00\x00\x01\x00\x00\x01\x00\x00"+rest)
}

// Any three powers of 2 may be put, whichever is the greatest.
func TestPut(t *testing.T) {
	for i := range 17 {
		for j := range 17 {
			for k := range 17 {
				size, sector, page := 1<<i, 1<<j, 1<<k
				checkPut(t, size, sector, page, "SFDP\x06\x01\x00\xff"+four(size)+four(sector)+four(page)+strings.Repeat("\xff", 12))
			}
		}
	}
}

func TestPutWrong(t *testing.T) {
	wrong := []int{0, -1, 3, 5, 511, 513, 65535, 65537, 1 << 17, 1 << 32, 1<<32 + 512, -512, math.MinInt, math.MaxInt}
	for _, n := range wrong {
		refusePut(t, n, 512, 32)
		refusePut(t, 4096, n, 32)
		refusePut(t, 4096, 512, n)
		refusePut(t, n, n, n)
	}
	for n := range 65536 {
		if n == 0 || n&(n-1) != 0 {
			refusePut(t, 4096, n, 32)
		}
	}
}

func TestManyAtOnce(t *testing.T) {
	var group sync.WaitGroup
	for i := range 17 {
		group.Go(func() {
			checkPut(t, 1<<i, 1, 2, "SFDP\x06\x01\x00\xff"+four(1<<i)+four(1)+four(2)+strings.Repeat("\xff", 12))
			refusePut(t, 1<<i, 0, 2)
		})
	}
	group.Wait()
}
