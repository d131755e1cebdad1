package gas_test

import (
	"bytes"
	"math"
	"slices"
	"sync"
	"testing"

	"muniments/api"
	"muniments/gas"
)

// compare demands want of the call that name tells.
func compare(t *testing.T, name string, got, want int) {
	t.Helper()
	if got != want {
		t.Errorf("P1401 %s: %d, not %d", name, got, want)
	}
}

// TestExamples has the examples of the chapter.
func TestExamples(t *testing.T) {
	compare(t, "Words(33)", gas.Words(33), 2)
	compare(t, "Intrinsic of 0, 1, 0, 255", gas.Intrinsic(api.Tx{Data: []byte{0, 1, 0, 255}}), 21040)
	compare(t, "Store(0, 1)", gas.Store(low(0), low(1)), 20000)
	compare(t, "Exp(256)", gas.Exp(low(256)), 100)
	compare(t, "Log(3, 10)", gas.Log(3, 10), 80)
	compare(t, "Share(64)", gas.Share(64), 63)
	compare(t, "Call(true, false)", gas.Call(true, false), 34000)
}

func TestWords(t *testing.T) {
	for n, want := range map[int]int{
		math.MinInt: 0, math.MinInt + 1: 0, -1 << 31: 0, -64: 0, -33: 0, -32: 0, -31: 0, -1: 0, 0: 0,
		1: 1, 2: 1, 31: 1, 32: 1, 33: 2, 63: 2, 64: 2, 65: 3, 96: 3, 97: 4, 1 << 20: 1 << 15, 1<<20 + 1: 1<<15 + 1,
		1<<32 - 1: 1 << 27, 1 << 32: 1 << 27, 1<<32 + 1: 1<<27 + 1,
		math.MaxInt - 32: 1<<58 - 1, math.MaxInt - 31: 1<<58 - 1, math.MaxInt - 30: 1 << 58, math.MaxInt - 1: 1 << 58, math.MaxInt: 1 << 58,
	} {
		if got := gas.Words(n); got != want {
			t.Errorf("P1401 Words(%d): %d, not %d", n, got, want)
		}
	}
	for _, n := range ints() {
		if got, want := gas.Words(n), refWords(n); got != want {
			t.Errorf("P1401 Words(%d): %d, not %d", n, got, want)
		}
	}
}

// intrinsic demands what the chapter says of these data, with and without Make.
func intrinsic(t *testing.T, data []byte) {
	t.Helper()
	for _, made := range []bool{false, true} {
		tx := api.Tx{Make: made, Data: data}
		if got, want := gas.Intrinsic(tx), refIntrinsic(tx); got != want {
			t.Errorf("P1401 Intrinsic of %d bytes (from %x on) with Make %v: %d, not %d", len(data), data[:min(len(data), 8)], made, got, want)
		}
	}
}

func TestIntrinsic(t *testing.T) {
	for _, x := range []struct {
		made bool
		data []byte
		want int
	}{
		{false, nil, 21000}, {false, []byte{}, 21000}, {true, nil, 53000}, {true, []byte{}, 53000},
		{false, []byte{0}, 21004}, {false, []byte{1}, 21016}, {false, []byte{48}, 21016}, {false, []byte{128}, 21016}, {false, []byte{255}, 21016},
		{true, []byte{0}, 53004}, {true, []byte{1}, 53016}, {true, []byte{0, 1, 0, 255}, 53040},
		{false, make([]byte, 1<<20), 21000 + 4<<20}, {false, bytes.Repeat([]byte{1}, 1<<20), 21000 + 16<<20}, {true, make([]byte, 1<<20), 53000 + 4<<20},
	} {
		if got := gas.Intrinsic(api.Tx{Make: x.made, Data: x.data}); got != x.want {
			t.Errorf("P1401 Intrinsic of %d bytes with Make %v: %d, not %d", len(x.data), x.made, got, x.want)
		}
	}
}

// TestIntrinsicData has all data up to two bytes, all lengths up to 600 with one byte of another kind at each end and within, and places of zeros that hang on squares.
func TestIntrinsicData(t *testing.T) {
	for a := range 256 {
		intrinsic(t, []byte{byte(a)})
		for b := range 256 {
			intrinsic(t, []byte{byte(a), byte(b)})
		}
	}
	for n := 1; n <= 600; n++ {
		for _, v := range []byte{0, 1, 0x80, 0xff} {
			data := bytes.Repeat([]byte{v}, n)
			intrinsic(t, data)
			for _, at := range []int{0, n / 3, n - 1} {
				other := slices.Clone(data)
				other[at] = 1 - min(v, 1)
				intrinsic(t, other)
			}
		}
	}
	mixed := make([]byte, 70000)
	for i := range mixed {
		mixed[i] = byte(i * i >> 5)
	}
	for n := range 300 {
		intrinsic(t, mixed[:n*233])
		intrinsic(t, mixed[n:])
	}
}

// TestIntrinsicOthers fills the fields of which the chapter does not speak.
func TestIntrinsicOthers(t *testing.T) {
	full := api.Word(bytes.Repeat([]byte{255}, 32))
	for _, n := range []int{math.MinInt, -1, 1, 21000, math.MaxInt} {
		for _, x := range []api.Tx{
			{Nonce: n}, {Price: n}, {Gas: n}, {From: api.Addr{1}}, {To: api.Addr{19: 1}}, {Value: full}, {Value: low(1)},
			{Nonce: n, Price: n, Gas: n, From: api.Addr{1}, To: api.Addr{2}, Value: full, Data: []byte{0, 7}},
		} {
			for _, x.Make = range []bool{false, true} {
				if got, want := gas.Intrinsic(x), refIntrinsic(x); got != want {
					t.Errorf("P1401 Intrinsic of %v: %d, not %d", x, got, want)
				}
			}
		}
	}
}

func TestStore(t *testing.T) {
	full := api.Word(bytes.Repeat([]byte{255}, 32))
	for _, x := range []struct {
		was, is api.Word
		want    int
	}{
		{low(0), low(0), 5000}, {low(0), low(1), 20000}, {low(1), low(0), 5000}, {low(1), low(1), 5000}, {low(1), low(2), 5000}, {low(2), low(1), 5000},
		{low(0), full, 20000}, {full, low(0), 5000}, {full, full, 5000}, {low(0), api.Word{1}, 20000}, {api.Word{1}, low(0), 5000}, {api.Word{1}, low(1), 5000},
	} {
		if got := gas.Store(x.was, x.is); got != x.want {
			t.Errorf("P1401 Store(%x, %x): %d, not %d", x.was, x.is, got, x.want)
		}
	}
	all := wordsAt()
	for i, w := range all {
		for _, other := range []api.Word{{}, w, low(1), full, {16: 1}, {1}, all[(i+4)%len(all)]} {
			if got, want := gas.Store(w, other), refStore(w, other); got != want {
				t.Errorf("P1401 Store(%x, %x): %d, not %d", w, other, got, want)
			}
			if got, want := gas.Store(other, w), refStore(other, w); got != want {
				t.Errorf("P1401 Store(%x, %x): %d, not %d", other, w, got, want)
			}
		}
	}
}

func TestExp(t *testing.T) {
	compare(t, "Exp(0)", gas.Exp(low(0)), 0)
	compare(t, "Exp(1)", gas.Exp(low(1)), 50)
	compare(t, "Exp(255)", gas.Exp(low(255)), 50)
	compare(t, "Exp(65535)", gas.Exp(low(65535)), 100)
	compare(t, "Exp(65536)", gas.Exp(low(65536)), 150)
	compare(t, "Exp of 2 to the power of 248", gas.Exp(api.Word{1}), 1600)
	for _, w := range wordsAt() {
		if got, want := gas.Exp(w), refExp(w); got != want {
			t.Errorf("P1401 Exp(%x): %d, not %d", w, got, want)
		}
	}
}

// TestLog has n up to the last one whose gas is an int.
func TestLog(t *testing.T) {
	topics := []int{math.MinInt, -1, 0, 1, 2, 3, 4, 5, 1 << 32, math.MaxInt}
	for _, n := range ints() {
		if n > math.MaxInt/8 {
			continue
		}
		want := 0
		for range 8 {
			want += max(n, 0)
		}
		for _, number := range topics {
			if got := gas.Log(number, n); got != want {
				t.Errorf("P1401 Log(%d, %d): %d, not %d", number, n, got, want)
			}
		}
	}
	for _, n := range []int{math.MaxInt/8 + 1, math.MaxInt / 2, math.MaxInt} {
		for _, number := range topics {
			if gas.Log(number, n) != gas.Log(0, n) {
				t.Errorf("P1401 Log(%d, %d) is not that of 0 topics", number, n)
			}
		}
	}
}

func TestShare(t *testing.T) {
	for left, want := range map[int]int{
		math.MinInt: 0, math.MinInt + 1: 0, -1 << 31: 0, -128: 0, -65: 0, -64: 0, -63: 0, -1: 0, 0: 0,
		1: 1, 2: 2, 62: 62, 63: 63, 64: 63, 65: 64, 127: 126, 128: 126, 129: 127, 6400: 6300, 6399: 6300,
		1 << 32: 1<<32 - 1<<26, math.MaxInt: math.MaxInt - 1<<57 + 1, math.MaxInt - 63: math.MaxInt - 63 - 1<<57 + 1, math.MaxInt - 64: math.MaxInt - 64 - 1<<57 + 2,
	} {
		if got := gas.Share(left); got != want {
			t.Errorf("P1401 Share(%d): %d, not %d", left, got, want)
		}
	}
	for _, left := range ints() {
		if got, want := gas.Share(left), refShare(left); got != want {
			t.Errorf("P1401 Share(%d): %d, not %d", left, got, want)
		}
	}
}

func TestCall(t *testing.T) {
	compare(t, "Call(false, false)", gas.Call(false, false), 0)
	compare(t, "Call(false, true)", gas.Call(false, true), 0)
	compare(t, "Call(true, false)", gas.Call(true, false), 34000)
	compare(t, "Call(true, true)", gas.Call(true, true), 9000)
}

// TestData demands that the data stay as they are, and what lies behind them, and that nothing of them is kept.
func TestData(t *testing.T) {
	whole := []byte{0, 1, 0, 2, 3, 0, 0, 9, 9, 0}
	before := slices.Clone(whole)
	for n := range len(whole) + 1 {
		tx := api.Tx{Data: whole[:n]}
		if got, want := gas.Intrinsic(tx), refIntrinsic(tx); got != want {
			t.Errorf("P1402 Intrinsic of %x with spare capacity: %d, not %d", tx.Data, got, want)
		}
		if !bytes.Equal(whole, before) || len(tx.Data) != n {
			t.Fatalf("P1402 Intrinsic of %d bytes leaves %x of %x", n, whole, before)
		}
	}
	tx := api.Tx{Data: whole}
	for i := range whole {
		whole[i] ^= 1
		if got, want := gas.Intrinsic(tx), refIntrinsic(tx); got != want {
			t.Errorf("P1402 Intrinsic after a change of the byte %d: %d, not %d", i, got, want)
		}
	}
}

// TestTogether asks from many goroutines at once, each in another order: each answer hangs on the question alone.
func TestTogether(t *testing.T) {
	data := []byte{0, 1, 0, 255, 0}
	calls := []struct {
		name string
		call func() int
		want int
	}{
		{"Words(-1)", func() int { return gas.Words(-1) }, 0},
		{"Words(65)", func() int { return gas.Words(65) }, 3},
		{"Intrinsic", func() int { return gas.Intrinsic(api.Tx{Data: data}) }, 21044},
		{"Intrinsic with Make", func() int { return gas.Intrinsic(api.Tx{Make: true, Data: data[1:]}) }, 53040},
		{"Store(0, 1)", func() int { return gas.Store(low(0), low(1)) }, 20000},
		{"Store(1, 0)", func() int { return gas.Store(low(1), low(0)) }, 5000},
		{"Exp(0)", func() int { return gas.Exp(low(0)) }, 0},
		{"Exp(256)", func() int { return gas.Exp(low(256)) }, 100},
		{"Log(4, 3)", func() int { return gas.Log(4, 3) }, 24},
		{"Log(0, -3)", func() int { return gas.Log(0, -3) }, 0},
		{"Share(640)", func() int { return gas.Share(640) }, 630},
		{"Share(-640)", func() int { return gas.Share(-640) }, 0},
		{"Call(true, true)", func() int { return gas.Call(true, true) }, 9000},
		{"Call(false, true)", func() int { return gas.Call(false, true) }, 0},
	}
	var wait sync.WaitGroup
	for step := range len(calls) {
		wait.Go(func() {
			for i := range 20 * len(calls) {
				c := calls[(i*(step+1)+i/len(calls))%len(calls)]
				if got := c.call(); got != c.want {
					t.Errorf("P1402 %s beside other calls: %d, not %d", c.name, got, c.want)
				}
			}
		})
	}
	wait.Wait()
}

func BenchmarkIntrinsic(b *testing.B) {
	data := bytes.Repeat([]byte{0, 1, 2, 3}, 1<<15)
	b.SetBytes(int64(len(data)))
	for b.Loop() {
		gas.Intrinsic(api.Tx{Data: data})
	}
}

func BenchmarkExp(b *testing.B) {
	e := api.Word{20: 1}
	for b.Loop() {
		gas.Exp(e)
	}
}
