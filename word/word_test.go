package word_test

import (
	"math"
	"math/big"
	"testing"

	"muniments/api"
	"muniments/word"
)

// least is the least signed value.
var least = api.Word{128}

// modulus is 2^256.
var modulus = new(big.Int).Lsh(big.NewInt(1), 256)

func value(w api.Word) *big.Int { return new(big.Int).SetBytes(w[:]) }

func signed(w api.Word) *big.Int {
	n := value(w)
	if n.Bit(255) == 1 {
		n.Sub(n, modulus)
	}
	return n
}

// reduced is the word of n modulo 2^256, also of a negative n.
func reduced(n *big.Int) api.Word {
	var w api.Word
	new(big.Int).Mod(n, modulus).FillBytes(w[:])
	return w
}

// limbsOf is the word of four limbs, the highest one first.
func limbsOf(limbs [4]uint64) api.Word {
	n := new(big.Int)
	for _, limb := range limbs {
		n.Lsh(n, 64)
		n.Add(n, new(big.Int).SetUint64(limb))
	}
	return reduced(n)
}

// dice is a sequence of numbers that looks random and is always the same.
type dice struct{ state uint64 }

func (d *dice) roll() uint64 {
	d.state += 0x9E3779B97F4A7C15
	z := d.state
	z = (z ^ z>>30) * 0xBF58476D1CE4E5B9
	z = (z ^ z>>27) * 0x94D049BB133111EB
	return z ^ z>>31
}

// word has limbs that are at the edge of carrying as often as any others, and often leading zero limbs.
func (d *dice) word() api.Word {
	edges := []uint64{0, 0, 1, 2, math.MaxUint64, math.MaxUint64 - 1, 1 << 63, 1<<63 - 1, 1<<63 + 1, 1 << 32, 1<<32 - 1}
	var limbs [4]uint64
	for i := int(d.roll() % 4); i < 4; i++ {
		limbs[i] = d.roll()
		if k := d.roll() % uint64(2*len(edges)); k < uint64(len(edges)) {
			limbs[i] = edges[k]
		}
	}
	return limbsOf(limbs)
}

// corners are words at which something turns.
func corners() []api.Word {
	list := []api.Word{{}, word.Of(3), word.Of(5), word.Of(7), word.Of(10), word.Of(30), word.Of(-3), word.Of(-10)}
	for _, n := range []uint{0, 1, 5, 7, 8, 31, 32, 63, 64, 65, 127, 128, 191, 192, 248, 254, 255, 256} {
		power := new(big.Int).Lsh(big.NewInt(1), n)
		for k := int64(-1); k <= 1; k++ {
			list = append(list, reduced(new(big.Int).Add(power, big.NewInt(k))))
		}
	}
	return list
}

func truth(b bool) *big.Int {
	if b {
		return big.NewInt(1)
	}
	return big.NewInt(0)
}

// unlessZero is f of two numbers, or 0 if the second one is 0.
func unlessZero(a, b *big.Int, f func(a, b *big.Int) *big.Int) *big.Int {
	if b.Sign() == 0 {
		return new(big.Int)
	}
	return f(a, b)
}

func quotient(a, b *big.Int) *big.Int { return new(big.Int).Quo(a, b) }

func remainder(a, b *big.Int) *big.Int { return new(big.Int).Rem(a, b) }

// shift is the number of a word, or 256 for more than that.
func shift(k api.Word) uint {
	if value(k).Cmp(big.NewInt(256)) > 0 {
		return 256
	}
	return uint(value(k).Uint64())
}

func extended(k, a api.Word) *big.Int {
	if shift(k) > 30 {
		return value(a)
	}
	width := 8 * (shift(k) + 1)
	n := new(big.Int).Mod(value(a), new(big.Int).Lsh(big.NewInt(1), width))
	if n.Bit(int(width)-1) == 1 {
		n.Sub(n, new(big.Int).Lsh(big.NewInt(1), width))
	}
	return n
}

func byteAt(k, a api.Word) *big.Int {
	if shift(k) > 31 {
		return new(big.Int)
	}
	return big.NewInt(int64(a[shift(k)]))
}

// pairCase is a function of two words, with what it must return.
type pairCase struct {
	name   string
	f      func(a, b api.Word) api.Word
	expect func(a, b api.Word) *big.Int
}

func pairCases() []pairCase {
	return []pairCase{
		{"P101 Cmp", func(a, b api.Word) api.Word { return word.Of(word.Cmp(a, b)) }, func(a, b api.Word) *big.Int { return big.NewInt(int64(value(a).Cmp(value(b)))) }},
		{"P101 SCmp", func(a, b api.Word) api.Word { return word.Of(word.SCmp(a, b)) }, func(a, b api.Word) *big.Int { return big.NewInt(int64(signed(a).Cmp(signed(b)))) }},
		{"P102 Add", word.Add, func(a, b api.Word) *big.Int { return new(big.Int).Add(value(a), value(b)) }},
		{"P102 Sub", word.Sub, func(a, b api.Word) *big.Int { return new(big.Int).Sub(value(a), value(b)) }},
		{"P102 Mul", word.Mul, func(a, b api.Word) *big.Int { return new(big.Int).Mul(value(a), value(b)) }},
		{"P102 Div", word.Div, func(a, b api.Word) *big.Int { return unlessZero(value(a), value(b), quotient) }},
		{"P102 Mod", word.Mod, func(a, b api.Word) *big.Int { return unlessZero(value(a), value(b), remainder) }},
		{"P102 SDiv", word.SDiv, func(a, b api.Word) *big.Int { return unlessZero(signed(a), signed(b), quotient) }},
		{"P102 SMod", word.SMod, func(a, b api.Word) *big.Int { return unlessZero(signed(a), signed(b), remainder) }},
		{"P102 Exp", word.Exp, func(a, b api.Word) *big.Int { return new(big.Int).Exp(value(a), value(b), modulus) }},
		{"P103 And", word.And, func(a, b api.Word) *big.Int { return new(big.Int).And(value(a), value(b)) }},
		{"P103 Or", word.Or, func(a, b api.Word) *big.Int { return new(big.Int).Or(value(a), value(b)) }},
		{"P103 Xor", word.Xor, func(a, b api.Word) *big.Int { return new(big.Int).Xor(value(a), value(b)) }},
		{"P103 Byte", word.Byte, byteAt},
		{"P103 Shl", word.Shl, func(k, a api.Word) *big.Int { return new(big.Int).Lsh(value(a), shift(k)) }},
		{"P103 Shr", word.Shr, func(k, a api.Word) *big.Int { return new(big.Int).Rsh(value(a), shift(k)) }},
		{"P103 Sar", word.Sar, func(k, a api.Word) *big.Int { return new(big.Int).Rsh(signed(a), shift(k)) }},
		{"P103 Extend", word.Extend, extended},
	}
}

// TestPairs holds every function of two words against math/big.
func TestPairs(t *testing.T) {
	pairs := [][2]api.Word{}
	for _, a := range corners() {
		for _, b := range corners() {
			pairs = append(pairs, [2]api.Word{a, b})
		}
	}
	d := dice{1}
	for range 20000 {
		pairs = append(pairs, [2]api.Word{d.word(), d.word()})
	}
	for k := range 300 {
		pairs = append(pairs, [2]api.Word{word.Of(k), d.word()}, [2]api.Word{word.Of(k), word.Not(d.word())})
	}
	for _, c := range pairCases() {
		for _, p := range pairs {
			got, want := c.f(p[0], p[1]), reduced(c.expect(p[0], p[1]))
			if got != want {
				t.Fatalf("%s of %x, %x: %x, not %x", c.name, p[0], p[1], got, want)
			}
		}
	}
}

// TestTriples holds AddMod and MulMod against math/big: their sums and products are not reduced.
func TestTriples(t *testing.T) {
	check := func(a, b, n api.Word) {
		t.Helper()
		sum, product := new(big.Int).Add(value(a), value(b)), new(big.Int).Mul(value(a), value(b))
		if got, want := word.AddMod(a, b, n), reduced(unlessZero(sum, value(n), remainder)); got != want {
			t.Fatalf("P102 AddMod of %x, %x, %x: %x, not %x", a, b, n, got, want)
		}
		if got, want := word.MulMod(a, b, n), reduced(unlessZero(product, value(n), remainder)); got != want {
			t.Fatalf("P102 MulMod of %x, %x, %x: %x, not %x", a, b, n, got, want)
		}
	}
	list := corners()
	for i, a := range list {
		for j, b := range list {
			for k := (i + j) % 3; k < len(list); k += 3 {
				check(a, b, list[k])
			}
		}
	}
	d := dice{2}
	for range 50000 {
		check(d.word(), d.word(), d.word())
	}
}

func TestOf(t *testing.T) {
	for _, n := range []int{0, 1, 2, 255, 256, 1<<32 - 1, 1 << 32, math.MaxInt - 1, math.MaxInt, -1, -2, -256, -1 << 32, math.MinInt + 1, math.MinInt} {
		if got, want := word.Of(n), reduced(big.NewInt(int64(n))); got != want {
			t.Errorf("P101 Of %d: %x, not %x", n, got, want)
		}
	}
	if (word.Of(1) != api.Word{31: 1}) {
		t.Error("P101 Of 1: the most significant byte is not the first one")
	}
}

func TestIntAndBits(t *testing.T) {
	list := corners()
	d := dice{3}
	for range 1000 {
		list = append(list, d.word())
	}
	for _, w := range list {
		n, ok := word.Int(w)
		if fits := value(w).IsInt64(); ok != fits || fits && int64(n) != value(w).Int64() || !fits && n != 0 {
			t.Errorf("P101 Int of %x: %d, %v", w, n, ok)
		}
		if got, want := word.Bits(w), value(w).BitLen(); got != want {
			t.Errorf("P101 Bits of %x: %d, not %d", w, got, want)
		}
	}
	if n, ok := word.Int(word.Of(math.MaxInt64)); n != math.MaxInt64 || !ok {
		t.Error("P101 Int of 2^63 - 1")
	}
	if n, ok := word.Int(word.Add(word.Of(math.MaxInt64), word.Of(1))); n != 0 || ok {
		t.Error("P101 Int of 2^63")
	}
}

func TestNot(t *testing.T) {
	d := dice{4}
	for _, w := range append(corners(), d.word(), d.word(), d.word()) {
		if got, want := word.Not(w), reduced(new(big.Int).Not(value(w))); got != want {
			t.Errorf("P103 Not of %x: %x, not %x", w, got, want)
		}
	}
}

// TestExamples has the examples of the chapter and the edges that it names.
func TestExamples(t *testing.T) {
	of := word.Of
	for _, c := range []struct {
		name      string
		got, want api.Word
	}{
		{"P101 Bits(Of(-1))", of(word.Bits(of(-1))), of(256)},
		{"P101 Bits(Of(256))", of(word.Bits(of(256))), of(9)},
		{"P101 Cmp(Of(-1), Of(1))", of(word.Cmp(of(-1), of(1))), of(1)},
		{"P101 SCmp(Of(-1), Of(1))", of(word.SCmp(of(-1), of(1))), of(-1)},
		{"P102 Add wraps", word.Add(of(-1), of(1)), of(0)},
		{"P102 Sub wraps", word.Sub(of(0), of(1)), of(-1)},
		{"P102 Mul", word.Mul(of(-1), of(-1)), of(1)},
		{"P102 Div", word.Div(of(7), of(2)), of(3)},
		{"P102 Div by 0", word.Div(of(7), of(0)), of(0)},
		{"P102 Mod", word.Mod(of(7), of(2)), of(1)},
		{"P102 Mod by 0", word.Mod(of(7), of(0)), of(0)},
		{"P102 SDiv", word.SDiv(of(-7), of(2)), of(-3)},
		{"P102 SDiv by 0", word.SDiv(of(-7), of(0)), of(0)},
		{"P102 SDiv of the least value", word.SDiv(least, of(-1)), least},
		{"P102 SMod", word.SMod(of(-7), of(2)), of(-1)},
		{"P102 SMod by 0", word.SMod(of(-7), of(0)), of(0)},
		{"P102 SMod of the least value", word.SMod(least, of(-1)), of(0)},
		{"P102 AddMod", word.AddMod(of(-1), of(-1), of(10)), of(0)},
		{"P102 AddMod by 0", word.AddMod(of(1), of(2), of(0)), of(0)},
		{"P102 MulMod", word.MulMod(of(-1), of(-1), of(10)), of(5)},
		{"P102 MulMod by 0", word.MulMod(of(1), of(2), of(0)), of(0)},
		{"P102 Exp", word.Exp(of(3), of(5)), of(243)},
		{"P102 Exp 0 of 0", word.Exp(of(0), of(0)), of(1)},
		{"P103 And", word.And(of(12), of(10)), of(8)},
		{"P103 Or", word.Or(of(12), of(10)), of(14)},
		{"P103 Xor", word.Xor(of(12), of(10)), of(6)},
		{"P103 Not", word.Not(of(0)), of(-1)},
		{"P103 Byte", word.Byte(of(31), of(511)), of(255)},
		{"P103 Byte 0", word.Byte(of(0), api.Word{0: 7, 31: 9}), of(7)},
		{"P103 Byte 32", word.Byte(of(32), of(-1)), of(0)},
		{"P103 Byte 2^64", word.Byte(api.Word{23: 1}, of(-1)), of(0)},
		{"P103 Shl", word.Shl(of(1), of(3)), of(6)},
		{"P103 Shl 255", word.Shl(of(255), of(-1)), least},
		{"P103 Shl 256", word.Shl(of(256), of(-1)), of(0)},
		{"P103 Shl 2^64 + 1", word.Shl(api.Word{23: 1, 31: 1}, of(-1)), of(0)},
		{"P103 Shr", word.Shr(of(1), of(3)), of(1)},
		{"P103 Shr 255", word.Shr(of(255), of(-1)), of(1)},
		{"P103 Shr 256", word.Shr(of(256), of(-1)), of(0)},
		{"P103 Shr 2^64 + 1", word.Shr(api.Word{23: 1, 31: 1}, of(-1)), of(0)},
		{"P103 Sar", word.Sar(of(1), of(-3)), of(-2)},
		{"P103 Sar 255", word.Sar(of(255), least), of(-1)},
		{"P103 Sar 256", word.Sar(of(256), least), of(-1)},
		{"P103 Sar 256, positive", word.Sar(of(256), word.Not(least)), of(0)},
		{"P103 Sar 2^255", word.Sar(least, of(-2)), of(-1)},
		{"P103 Extend", word.Extend(of(0), of(255)), of(-1)},
		{"P103 Extend 30", word.Extend(of(30), api.Word{1: 128}), api.Word{0: 255, 1: 128}},
		{"P103 Extend 31", word.Extend(of(31), api.Word{1: 128}), api.Word{1: 128}},
		{"P103 Extend 2^255", word.Extend(least, of(255)), of(255)},
	} {
		if c.got != c.want {
			t.Errorf("%s: %x, not %x", c.name, c.got, c.want)
		}
	}
}

// TestArguments calls each function twice, with a call on other words between: the arguments stand, the first result stands, and the second one is the same.
func TestArguments(t *testing.T) {
	d := dice{5}
	for _, c := range pairCases() {
		for range 50 {
			a, b := d.word(), d.word()
			keptA, keptB := a, b
			first := c.f(a, b)
			kept := first
			other := c.f(d.word(), d.word())
			other[0]++
			if a != keptA || b != keptB || first != kept || c.f(a, b) != kept {
				t.Fatalf("P104 %s of %x, %x", c.name, keptA, keptB)
			}
		}
	}
	for range 50 {
		a, b, n := d.word(), d.word(), d.word()
		sum, product, not := word.AddMod(a, b, n), word.MulMod(a, b, n), word.Not(a)
		word.AddMod(d.word(), d.word(), d.word())
		word.MulMod(d.word(), d.word(), d.word())
		word.Not(d.word())
		if word.AddMod(a, b, n) != sum || word.MulMod(a, b, n) != product || word.Not(a) != not {
			t.Fatalf("P104 of %x, %x, %x", a, b, n)
		}
	}
}

var sink api.Word

func BenchmarkAdd(b *testing.B) {
	x, y := word.Of(-5), word.Of(7)
	for range b.N {
		sink = word.Add(x, y)
	}
}

func BenchmarkMul(b *testing.B) {
	x, y := word.Of(-5), word.Of(-7)
	for range b.N {
		sink = word.Mul(x, y)
	}
}

func BenchmarkDivSmall(b *testing.B) {
	x, y := word.Of(-5), word.Of(7)
	for range b.N {
		sink = word.Div(x, y)
	}
}

func BenchmarkMulMod(b *testing.B) {
	x, y, n := word.Of(-5), word.Of(-7), word.Shr(word.Of(70), word.Of(-1))
	for range b.N {
		sink = word.MulMod(x, y, n)
	}
}

func BenchmarkExp(b *testing.B) {
	x, y := word.Of(-5), word.Of(-7)
	for range b.N {
		sink = word.Exp(x, y)
	}
}
