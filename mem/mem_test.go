package mem_test

import (
	"bytes"
	"math"
	"math/big"
	"sync"
	"testing"

	"muniments/api"
	"muniments/mem"
)

// farInts are numbers at which a sum or a difference with another number may be no int.
func farInts() []int {
	var l []int
	for _, n := range []int{math.MinInt, math.MaxInt, math.MinInt32, math.MaxInt32, 1 << 32, 1 << 31, 1 << 62} {
		for d := range 70 {
			l = append(l, n+d, n-d) // also what wraps round
		}
	}
	return l
}

func TestCost(t *testing.T) {
	if got := mem.Cost(32); got != 98 {
		t.Errorf("P1301 Cost(32): %d", got)
	}
	if got := mem.Cost(1 << 20); got != 3<<20+1<<31 {
		t.Errorf("P1301 Cost(1 << 20): %d", got)
	}
	l := farInts()
	for n := -2000; n < 40_000; n++ {
		l = append(l, n, n+1<<20-2000)
	}
	for _, n := range l {
		if got := mem.Cost(n); got != refCost(n) {
			t.Fatalf("P1301 Cost(%d): %d, not %d", n, got, refCost(n))
		}
	}
}

// grow lets m and r grow, and demands the same answers.
func grow(t *testing.T, m *mem.Mem, r *refMem, at, n api.Word) {
	t.Helper()
	want, wantOK := r.grow(at, n)
	if got, ok := m.Grow(at, n); got != want || ok != wantOK {
		t.Fatalf("P1301 Grow(%x, %x): %d, %v, not %d, %v", at, n, got, ok, want, wantOK)
	}
	if got := m.Size(); got != len(r.bytes) {
		t.Fatalf("P1301 Size after Grow(%x, %x): %d, not %d", at, n, got, len(r.bytes))
	}
}

// grown returns a memory of so many bytes, none of which is 0, and its reference.
func grown(t *testing.T, size int) (*mem.Mem, *refMem) {
	t.Helper()
	m, r := &mem.Mem{}, &refMem{}
	grow(t, m, r, api.Word{}, low(size))
	b := make([]byte, size)
	for i := range b {
		b[i] = byte(i%255) + 1
	}
	if !m.Put(0, b) || !r.put(0, b) {
		t.Fatalf("P1301 Put of %d bytes returns false", size)
	}
	return m, r
}

func TestEmptyMem(t *testing.T) {
	var m mem.Mem
	if m.Size() != 0 {
		t.Errorf("P1301 Size of a zero Mem: %d", m.Size())
	}
	if got := m.Get(0, 3); !bytes.Equal(got, make([]byte, 3)) {
		t.Errorf("P1301 Get of a zero Mem: %v", got)
	}
	if m.Put(0, []byte{1}) || m.Size() != 0 {
		t.Errorf("P1301 Put writes into a zero Mem")
	}
	if gas, ok := m.Grow(api.Word{}, low(33)); gas != 6 || !ok || m.Size() != 64 {
		t.Errorf("P1301 Grow by 33 bytes: %d, %v, Size %d", gas, ok, m.Size())
	}
}

// TestGrowSmall has all areas up to 100 bytes behind each other.
func TestGrowSmall(t *testing.T) {
	for size := 0; size <= 128; size += 32 {
		for at := range 100 {
			for n := range 100 {
				m, r := &mem.Mem{}, &refMem{}
				grow(t, m, r, low(0), low(size))
				grow(t, m, r, low(at), low(n))
			}
		}
	}
}

// TestGrowPowers has all areas whose index and length are 0 or a power of 2.
func TestGrowPowers(t *testing.T) {
	l := []api.Word{{}}
	for i := range uint(256) {
		l = append(l, power(i))
	}
	m, r := &mem.Mem{}, &refMem{}
	for _, at := range l {
		for _, n := range l {
			grow(t, m, r, at, n)
			grow(t, &mem.Mem{}, &refMem{}, at, n)
		}
	}
	sameMem(t, "P1301 after areas of all powers", m, r)
}

// limits are the words around those at which something may turn.
func limits() []api.Word {
	var l []api.Word
	for _, bits := range []uint{0, 5, 15, 16, 19, 20, 21, 31, 32, 62, 63, 64, 128, 192, 255, 256} {
		for _, d := range []int64{-33, -32, -31, -2, -1, 0, 1, 2, 31, 32, 33} {
			if x := new(big.Int).Lsh(big.NewInt(1), bits); x.Add(x, big.NewInt(d)).Sign() >= 0 && x.BitLen() <= 256 {
				l = append(l, wordOf(x))
			}
		}
	}
	return l
}

// TestNoGrowth has all areas around the limits that change nothing.
func TestNoGrowth(t *testing.T) {
	for _, size := range []int{0, 32, 1 << 16, api.MaxMem - 32, api.MaxMem} {
		m, r := grown(t, size)
		for _, at := range limits() {
			for _, n := range limits() {
				if after, _, _ := r.after(at, n); after == size {
					grow(t, m, r, at, n)
				}
			}
		}
		sameMem(t, "P1301 after areas that change nothing", m, r)
	}
}

// TestGrowth has areas around the limits that change something.
func TestGrowth(t *testing.T) {
	for _, size := range []int{0, 32, api.MaxMem - 32} {
		for _, at := range limits() {
			for _, n := range []int{1, 31, 32, 33, api.MaxMem - 1, api.MaxMem} {
				m, r := &mem.Mem{}, &refMem{}
				if after, _, _ := r.after(at, low(n)); after > size {
					grow(t, m, r, low(0), low(size))
					grow(t, m, r, at, low(n))
				}
			}
		}
	}
}

func TestGrowMost(t *testing.T) {
	for _, x := range []struct {
		at, n api.Word
		gas   int
		ok    bool
		size  int
	}{
		{low(0), low(api.MaxMem), 3<<15 + 1<<21, true, api.MaxMem},
		{low(api.MaxMem - 1), low(1), 3<<15 + 1<<21, true, api.MaxMem},
		{low(1), low(api.MaxMem - 1), 3<<15 + 1<<21, true, api.MaxMem},
		{low(api.MaxMem - 33), low(1), 3<<15 - 3 + (1<<15-1)*(1<<15-1)/512, true, api.MaxMem - 32},
		{low(1), low(api.MaxMem), 0, false, 0},
		{low(api.MaxMem), low(1), 0, false, 0},
		{low(0), low(api.MaxMem + 1), 0, false, 0},
		{low(api.MaxMem), low(0), 0, true, 0},
		{highest, low(0), 0, true, 0},
		{highest, low(1), 0, false, 0},
		{highest, low(33), 0, false, 0},
		{low(33), highest, 0, false, 0},
		{highest, highest, 0, false, 0},
		{power(255), power(255), 0, false, 0},
		{power(64), low(1), 0, false, 0},
		{low(1), power(64), 0, false, 0},
		{low(math.MaxInt), low(math.MaxInt), 0, false, 0},
		{low(math.MaxInt), low(1), 0, false, 0},
	} {
		var m mem.Mem
		if gas, ok := m.Grow(x.at, x.n); gas != x.gas || ok != x.ok || m.Size() != x.size {
			t.Errorf("P1301 Grow(%x, %x): %d, %v, Size %d, not %d, %v, %d", x.at, x.n, gas, ok, m.Size(), x.gas, x.ok, x.size)
		}
	}
}

// TestGrowStepwise pays in small steps what it would pay at once, and finds the new bytes to be 0 and the old ones unchanged.
func TestGrowStepwise(t *testing.T) {
	for _, step := range []int{1, 31, 32, 33, 1000, 70_000} {
		var m mem.Mem
		paid := 0
		for end := step; end <= api.MaxMem; end += step {
			before := m.Size()
			gas, ok := m.Grow(low(end-step), low(step))
			if !ok {
				t.Fatalf("P1301 Grow to %d bytes returns false", end)
			}
			paid += gas
			fresh := m.Size() - before
			if want := (end+31)/32*32 - before; fresh != want {
				t.Fatalf("P1301 Grow to %d bytes adds %d bytes, not %d", end, fresh, want)
			}
			if got := m.Get(before, fresh); !bytes.Equal(got, make([]byte, fresh)) {
				t.Fatalf("P1301 new bytes are not 0: %x", got)
			}
			if !m.Put(before, bytes.Repeat([]byte{byte(before / 32), 255}, fresh/2)) {
				t.Fatalf("P1301 Put into %d new bytes returns false", fresh)
			}
		}
		if want := mem.Cost(m.Size() / 32); paid != want {
			t.Errorf("P1301 gas in steps of %d bytes: %d, not %d", step, paid, want)
		}
		if got := m.Get(0, 2); !bytes.Equal(got, []byte{0, 255}) {
			t.Errorf("P1301 the first bytes after steps of %d bytes: %x", step, got)
		}
	}
}

// get demands of m what r has.
func get(t *testing.T, m *mem.Mem, r *refMem, at, n int) {
	t.Helper()
	if got, want := m.Get(at, n), r.get(at, n); !bytes.Equal(got, want) {
		t.Fatalf("P1301 Get(%d, %d) of %d bytes: %x, not %x", at, n, len(r.bytes), got, want)
	}
	if got := m.Size(); got != len(r.bytes) {
		t.Fatalf("P1301 Get(%d, %d) makes %d bytes of %d", at, n, got, len(r.bytes))
	}
}

func TestGet(t *testing.T) {
	for size := 0; size <= 96; size += 32 {
		m, r := grown(t, size)
		for at := -40; at < 140; at++ {
			for n := -40; n < 140; n++ {
				get(t, m, r, at, n)
			}
		}
		for _, far := range farInts() {
			for _, near := range []int{-1, 0, 1, 31, 32, 40} {
				get(t, m, r, far, near)
				get(t, m, r, near, far)
			}
			get(t, m, r, far, far)
		}
	}
	m, _ := grown(t, 32)
	if got := m.Get(40, 2); !bytes.Equal(got, []byte{0, 0}) {
		t.Errorf("P1301 Get(40, 2) of 32 bytes: %v", got)
	}
	if got := m.Get(31, 3); !bytes.Equal(got, []byte{32, 0, 0}) {
		t.Errorf("P1301 Get(31, 3) of 32 bytes: %v", got)
	}
}

// TestGetMost asks for the most bytes, and for one more.
func TestGetMost(t *testing.T) {
	for _, size := range []int{0, 32, api.MaxMem} {
		m, r := grown(t, size)
		for _, at := range []int{-1, 0, 1, 31, 32, 33, api.MaxMem - 1, api.MaxMem, api.MaxMem + 1, math.MaxInt - api.MaxMem, math.MaxInt} {
			for _, n := range []int{api.MaxMem - 1, api.MaxMem, api.MaxMem + 1, 2 * api.MaxMem, 1 << 32} {
				get(t, m, r, at, n)
			}
		}
		if got := len(m.Get(1<<40, api.MaxMem)); got != api.MaxMem {
			t.Errorf("P1301 Get of MaxMem bytes returns %d", got)
		}
	}
}

// put writes to m and r, and demands the same answers.
func put(t *testing.T, m *mem.Mem, r *refMem, at int, b []byte) {
	t.Helper()
	want := r.put(at, b)
	if got := m.Put(at, b); got != want {
		t.Fatalf("P1301 Put of %d bytes at %d of %d: %v", len(b), at, len(r.bytes), got)
	}
}

func TestPut(t *testing.T) {
	far := farInts()
	b := bytes.Repeat([]byte{255, 254, 253}, 40)
	for size := 0; size <= 64; size += 32 {
		for at := -40; at < 80; at++ {
			for n := range 80 {
				m, r := grown(t, size)
				put(t, m, r, at, b[:n])
				sameMem(t, "P1301 after Put", m, r)
			}
		}
		m, r := grown(t, size)
		for _, at := range far {
			for _, n := range []int{0, 1, 2, 31, 32, 33, 64, 65, 120} {
				put(t, m, r, at, b[:n])
			}
		}
		sameMem(t, "P1301 after Put far off", m, r)
		if !m.Put(math.MaxInt, nil) || !m.Put(1000, nil) || !m.Put(0, nil) || m.Put(-1, nil) || m.Put(math.MinInt, nil) {
			t.Errorf("P1301 Put of no bytes, of %d", size)
		}
	}
	m, r := grown(t, 32)
	if m.Put(30, []byte{1, 2, 3}) {
		t.Errorf("P1301 Put of three bytes at 30 of 32 returns true")
	}
	sameMem(t, "P1301 after Put of three bytes at 30 of 32", m, r)
}

func TestPutMost(t *testing.T) {
	most := bytes.Repeat([]byte{1, 2, 3, 4}, api.MaxMem/4+1)
	m, r := grown(t, api.MaxMem)
	put(t, m, r, 0, most[:api.MaxMem+1])
	put(t, m, r, 1, most[:api.MaxMem])
	put(t, m, r, api.MaxMem, most[:1])
	sameMem(t, "P1301 after what does not fit", m, r)
	put(t, m, r, 0, most[:api.MaxMem])
	put(t, m, r, api.MaxMem-1, most[2:3])
	sameMem(t, "P1301 after what just fits", m, r)
}

// TestMemSequences has many calls behind each other.
func TestMemSequences(t *testing.T) {
	r := noise(13)
	odd := []int{-1, -33, math.MinInt, math.MaxInt, api.MaxMem, api.MaxMem + 1, 1 << 40}
	for range 60 {
		m, ref := &mem.Mem{}, &refMem{}
		for range 150 {
			at, n := r.below(len(ref.bytes)+70), r.below(90)
			if r.below(8) == 0 {
				at = pick(&r, odd...)
			}
			switch r.below(5) {
			case 0:
				grow(t, m, ref, low(r.below(len(ref.bytes)+70)), low(n))
			case 1:
				grow(t, m, ref, pick(&r, highest, low(0), low(at&math.MaxInt)), pick(&r, low(0), low(n), highest, power(20)))
				if len(ref.bytes) > 1<<17 { // the reference would take long
					m, ref = &mem.Mem{}, &refMem{}
				}
			case 2:
				put(t, m, ref, at, r.bytes(n))
			default:
				get(t, m, ref, at, n)
			}
		}
		sameMem(t, "P1301 after many calls", m, ref)
	}
}

// TestPutArgument demands that what is put stays as it is and is not held.
func TestPutArgument(t *testing.T) {
	m, r := grown(t, 64)
	for _, at := range []int{0, 5, 61} {
		b := spacious([]byte{1, 2, 3})
		put(t, m, r, at, b)
		if !bytes.Equal(b[:5], []byte{1, 2, 3, 77, 77}) {
			t.Fatalf("P1303 Put changes its argument: %v", b[:5])
		}
		clear(b[:5])
		sameMem(t, "P1303 the argument of Put is held", m, r)
		put(t, m, r, at, []byte{9, 9})
		if !bytes.Equal(b[:5], make([]byte, 5)) {
			t.Fatalf("P1303 Put changes the argument of an earlier one: %v", b[:5])
		}
	}
	whole := bytes.Repeat([]byte{5}, 64)
	put(t, m, r, 0, whole)
	clear(whole)
	sameMem(t, "P1303 the argument of Put is held", m, r)
}

// TestGetResult demands new memory for each answer.
func TestGetResult(t *testing.T) {
	m, r := grown(t, 64)
	for _, x := range []struct{ at, n int }{{0, 64}, {0, 3}, {10, 20}, {60, 20}, {100, 5}, {0, 0}, {64, 0}} {
		b, other := m.Get(x.at, x.n), m.Get(x.at, x.n)
		want := r.get(x.at, x.n)
		full := b[:cap(b)]
		for i := range full {
			full[i] = 200
		}
		sameMem(t, "P1303 an answer of Get shares the memory's bytes", m, r)
		if !bytes.Equal(other, want) {
			t.Errorf("P1303 two answers of Get(%d, %d) share bytes", x.at, x.n)
		}
		put(t, m, r, 0, bytes.Repeat([]byte{byte(x.at + 1)}, 64))
		if !bytes.Equal(other, want) {
			t.Errorf("P1303 Put changes an answer of Get(%d, %d)", x.at, x.n)
		}
		grow(t, m, r, low(0), low(len(r.bytes)+1))
		sameMem(t, "P1303 an answer of Get shares what becomes the memory's bytes", m, r)
	}
}

// TestMemsApart changes many memories side by side, one in each goroutine and two in turn.
func TestMemsApart(t *testing.T) {
	var wait sync.WaitGroup
	for i := range 8 {
		wait.Go(func() {
			var a, b mem.Mem
			for end := 1; end < 3000; end += 7 {
				a.Grow(low(0), low(end))
				b.Grow(low(0), low(end+64))
				a.Put(end-1, []byte{byte(i)})
				b.Put(end-1, []byte{byte(i + 100)})
				if a.Size() != (end+31)/32*32 || b.Size() != (end+95)/32*32 || a.Get(end-1, 1)[0] != byte(i) || b.Get(end-1, 1)[0] != byte(i+100) || b.Get(end, 1)[0] != 0 {
					t.Errorf("P1301 memories beside each other, at %d", end)
					return
				}
			}
		})
	}
	wait.Wait()
}

func BenchmarkGrow(b *testing.B) {
	for b.Loop() {
		var m mem.Mem
		for at := 0; at < api.MaxMem; at += 32 {
			m.Grow(api.Word{29: byte(at >> 16), 30: byte(at >> 8), 31: byte(at)}, api.Word{31: 32})
		}
	}
}

func BenchmarkPutGet(b *testing.B) {
	var m mem.Mem
	m.Grow(low(0), low(1024))
	word := make([]byte, 32)
	for b.Loop() {
		m.Put(500, word)
		m.Get(501, 32)
	}
}
