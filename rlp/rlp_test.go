package rlp_test

import (
	"bytes"
	"math"
	"math/big"
	"slices"
	"strings"
	"sync"
	"testing"

	"muniments/api"
	"muniments/rlp"
	"muniments/word"
)

// most is the greatest length of an encoding.
const most = 1 << 24

// noise makes numbers that look random and are always the same.
type noise uint64

func (n *noise) below(limit int) int {
	*n = *n*6364136223846793005 + 1442695040888963407
	return int(uint64(*n>>33) % uint64(limit))
}

func (n *noise) bytes(count int) []byte {
	b := make([]byte, count)
	for i := range b {
		b[i] = byte(n.below(256))
	}
	return b
}

// item is an item of at most the given depth.
func (n *noise) item(deep int) api.Item {
	lengths := []int{0, 1, 1, 1, 2, 3, 20, 32, 54, 55, 56, 57, 100}
	if deep == 0 || n.below(3) == 0 {
		return text(n.bytes(lengths[n.below(len(lengths))]))
	}
	i := api.Item{IsList: true}
	for range n.below(6) {
		i.List = append(i.List, n.item(deep-1))
	}
	return i
}

func text(b []byte) api.Item { return api.Item{Bytes: b} }

func list(items ...api.Item) api.Item { return api.Item{IsList: true, List: items} }

// nest is i in so many lists.
func nest(i api.Item, lists int) api.Item {
	for range lists {
		i = list(i)
	}
	return i
}

// seq is the bytes and byte strings given, one after the other.
func seq(parts ...any) []byte {
	var b []byte
	for _, p := range parts {
		switch p := p.(type) {
		case int:
			b = append(b, byte(p))
		case []byte:
			b = append(b, p...)
		case string:
			b = append(b, p...)
		}
	}
	return b
}

// brief is the beginning of b.
func brief(b []byte) []byte { return b[:min(len(b), 40)] }

// both demands that b is the encoding of i: that Pack and Read take the one for the other.
func both(t *testing.T, i api.Item, b []byte) {
	t.Helper()
	if got, err := rlp.Pack(i); err != api.OK || !bytes.Equal(got, b) {
		t.Fatalf("P401 Pack: %d, %d bytes %x.., not %d bytes %x..", err, len(got), brief(got), len(b), brief(b))
	}
	if got, err := rlp.Read(b); err != api.OK || !same(got, i) {
		t.Fatalf("P401 Read of %x..: %d, another item", brief(b), err)
	}
}

// refuse demands that Read returns the error, and nothing beside it.
func refuse(t *testing.T, b []byte, want api.Errno) {
	t.Helper()
	if i, err := rlp.Read(b); err != want || !empty(i) {
		t.Fatalf("P401 Read of %d bytes %x..: %d beside %v, not %d", len(b), brief(b), err, i, want)
	}
}

// long demands that Pack returns ErrLong, and nothing beside it.
func long(t *testing.T, what string, i api.Item) {
	t.Helper()
	if b, err := rlp.Pack(i); err != api.ErrLong || len(b) != 0 {
		t.Fatalf("P401 Pack of %s: %d beside %d bytes", what, err, len(b))
	}
}

// against holds Read against the reference.
func against(t *testing.T, b []byte) {
	t.Helper()
	want, wantErr := refRead(b)
	switch wantErr {
	case errLong:
		refuse(t, b, api.ErrLong)
	case errByte:
		refuse(t, b, api.ErrByte)
	default:
		both(t, want, b)
	}
}

func TestExamples(t *testing.T) {
	both(t, text([]byte("dog")), seq(131, "dog"))
	both(t, list(), seq(192))
	refuse(t, seq(129, 97), api.ErrByte)
	if i := rlp.Num(256); !same(i, text([]byte{1, 0})) {
		t.Errorf("P402 Num(256): %v", i)
	}
	if n, ok := rlp.Int(text([]byte{0})); n != 0 || ok {
		t.Errorf("P402 Int of the byte 0: %d, %v", n, ok)
	}
	if i := rlp.Big(word.Of(0)); !empty(i) {
		t.Errorf("P402 Big of 0: %v", i)
	}
	if w, ok := rlp.Word(list()); w != (api.Word{}) || ok {
		t.Errorf("P402 Word of a list: %x, %v", w, ok)
	}
}

// TestKnown has encodings that are known from elsewhere.
func TestKnown(t *testing.T) {
	lorem := "Lorem ipsum dolor sit amet, consectetur adipisicing elit"
	cat, dog := text([]byte("cat")), text([]byte("dog"))
	for _, c := range []struct {
		i api.Item
		b []byte
	}{
		{text(nil), seq(0x80)},
		{text([]byte{0}), seq(0x00)},
		{text([]byte{15}), seq(0x0f)},
		{text([]byte{4, 0}), seq(0x82, 4, 0)},
		{list(cat, dog), seq(0xc8, 0x83, "cat", 0x83, "dog")},
		{list(list(), list(list()), list(list(), list(list()))), seq(0xc7, 0xc0, 0xc1, 0xc0, 0xc3, 0xc0, 0xc1, 0xc0)},
		{text([]byte(lorem)), seq(0xb8, 0x38, lorem)},
		{list(text(nil), text([]byte{0}), text([]byte{127}), text([]byte{128}), list()), seq(0xc6, 0x80, 0x00, 0x7f, 0x81, 0x80, 0xc0)},
	} {
		both(t, c.i, c.b)
	}
}

// TestSingles has every byte string of one byte: it encodes itself if it is less than 128.
func TestSingles(t *testing.T) {
	for v := range 256 {
		one := seq(v)
		if v < 128 {
			both(t, text(one), one)
			refuse(t, seq(129, v), api.ErrByte)
			both(t, list(text(one)), seq(193, v))
			refuse(t, seq(194, 129, v), api.ErrByte)
		} else {
			both(t, text(one), seq(129, v))
			both(t, list(text(one)), seq(194, 129, v))
		}
	}
}

// TestLengths has the lengths at which a head grows.
func TestLengths(t *testing.T) {
	r := noise(1)
	for _, n := range []int{0, 2, 3, 54, 55, 56, 57, 127, 128, 254, 255, 256, 257, 65534, 65535, 65536, 65537, 1<<24 - 5, 1<<24 - 4} {
		body := r.bytes(n)
		head := seq(128 + n)
		if n > 55 {
			head = seq(183+len(lengthBytes(n)), lengthBytes(n))
		}
		both(t, text(body), seq(head, body))
	}
	for _, n := range []int{54, 55, 56, 57, 255, 256, 65535, 65536} {
		body := bytes.Repeat([]byte{7}, n)
		i := api.Item{IsList: true, List: slices.Repeat([]api.Item{text([]byte{7})}, n)}
		head := seq(192 + n)
		if n > 55 {
			head = seq(247+len(lengthBytes(n)), lengthBytes(n))
		}
		both(t, i, seq(head, body))
		both(t, list(i), refPack(list(i)))
	}
}

// TestIgnored has items with something in the field that their kind ignores.
func TestIgnored(t *testing.T) {
	for _, c := range []struct {
		i api.Item
		b []byte
	}{
		{api.Item{Bytes: []byte("dog"), List: []api.Item{list()}}, seq(131, "dog")},
		{api.Item{List: []api.Item{list()}}, seq(128)},
		{api.Item{IsList: true, Bytes: []byte("dog")}, seq(192)},
		{api.Item{IsList: true, Bytes: make([]byte, most+1)}, seq(192)},
		{api.Item{List: nest(list(), 40).List}, seq(128)},
		{list(api.Item{IsList: true, Bytes: []byte{1}, List: []api.Item{{Bytes: []byte{5}, List: []api.Item{{}}}}}), seq(194, 193, 5)},
	} {
		if b, err := rlp.Pack(c.i); err != api.OK || !bytes.Equal(b, c.b) {
			t.Errorf("P401 Pack, a field being ignored: %x, %d, not %x", b, err, c.b)
		}
	}
}

// TestDepth has depths up to MaxDeep, and greater ones.
func TestDepth(t *testing.T) {
	dog := text([]byte("dog"))
	for lists := range 80 {
		for _, inner := range []api.Item{dog, text(nil), list(dog, text(nil)), text(bytes.Repeat([]byte{9}, 60))} {
			i := nest(inner, lists)
			if depth(i) <= api.MaxDeep {
				both(t, i, refPack(i))
				both(t, list(i).List[0], refPack(i))
				continue
			}
			long(t, "a deep item", i)
			refuse(t, refPack(i), api.ErrLong)
		}
	}
	both(t, nest(list(), api.MaxDeep-1), refPack(nest(list(), api.MaxDeep-1)))
	long(t, "lists of depth MaxDeep + 1", nest(list(), api.MaxDeep))
	deep := nest(list(), api.MaxDeep)
	for _, i := range []api.Item{list(text(nil), deep), list(deep, text(nil)), nest(list(list(), dog, list(list())), api.MaxDeep-1)} {
		long(t, "one deep item among others", i)
		refuse(t, refPack(i), api.ErrLong)
	}
	both(t, nest(list(list(), dog, list()), api.MaxDeep-2), refPack(nest(list(list(), dog, list()), api.MaxDeep-2)))
}

// inside puts b in so many lists, as their whole.
func inside(b []byte, lists int) []byte {
	for range lists {
		b = seq(refHead(192, len(b)), b)
	}
	return b
}

// TestFirstError has bytes with more than one error: the leftmost is returned.
func TestFirstError(t *testing.T) {
	deep := api.MaxDeep
	wrong := [][]byte{
		seq(129, 5),          // a byte that encodes itself
		seq(184, 55, "0123"), // missing bytes, of a length that belongs in the head
		seq(184, 0),          // a leading zero
		seq(185, 0, 200),     // a leading zero
		seq(248, 3, 1, 2, 3), // a length that belongs in the head
		seq(180, 1, 2),       // missing bytes
		seq(195, 1, 2),       // a missing byte of a list
		seq(184),             // a missing length
		seq(255, 1, 2, 3),    // a missing length
	}
	for _, w := range wrong {
		refuse(t, w, api.ErrByte)
		for lists := range deep {
			refuse(t, inside(w, lists), api.ErrByte)
			refuse(t, inside(seq(5, w), lists), api.ErrByte)
		}
		text := w[0] < 192
		// Nested in MaxDeep lists, a list is too deep by its first byte, whatever is wrong with it; a byte string is not.
		if text {
			refuse(t, inside(w, deep), api.ErrByte)
		} else {
			refuse(t, inside(w, deep), api.ErrLong)
		}
		// What is wrong first, is told first.
		refuse(t, inside(seq(192, w), deep), api.ErrLong)
		if text {
			refuse(t, inside(seq(w, 192), deep), api.ErrByte)
		}
		refuse(t, seq(inside(seq(192), deep), w), api.ErrLong)
		refuse(t, inside(seq(inside(seq(192), deep-1), w), 1), api.ErrLong)
	}
	tooDeep := inside(seq(192), deep)
	refuse(t, tooDeep, api.ErrLong)
	refuse(t, seq(tooDeep, 5), api.ErrLong)                                    // superfluous bytes are noticed last
	refuse(t, seq(inside(seq(192), deep-1), 5), api.ErrByte)                   // here there is nothing else
	refuse(t, seq(5, tooDeep), api.ErrByte)                                    // of superfluous bytes, nothing else is told
	refuse(t, tooDeep[:len(tooDeep)-1], api.ErrByte)                           // the outermost head misses a byte
	refuse(t, seq(refHead(192, len(tooDeep)+1), tooDeep), api.ErrByte)         // so does this one
	refuse(t, inside(seq(inside(seq(192), deep-1), 131, 1), 1), api.ErrLong)   // missing bytes are noticed at their head, which is behind
	refuse(t, inside(seq(180, 1, inside(seq(192), deep-1)), 1), api.ErrByte)   // here it is ahead
	refuse(t, inside(seq(198, 1, inside(seq(192), deep-5)), 1), api.ErrByte)   // a head of a list that ends within another item
	refuse(t, inside(seq(192+deep, inside(seq(192), deep-1)), 1), api.ErrLong) // the same bytes, with the length right
	for n := range 300 {
		// A list in a list of n others, with the bytes of its length missing or wrong.
		for _, tail := range [][]byte{seq(248), seq(255), seq(248, 1), seq(249, 0, 0), seq(193), seq(247, 1)} {
			against(t, inside(tail, n%40))
		}
	}
}

// TestMissing cuts encodings at every place, and adds a byte: nothing of it is an encoding.
func TestMissing(t *testing.T) {
	r := noise(2)
	for range 300 {
		b := refPack(r.item(4))
		for cut := range b {
			against(t, b[:cut])
			refuse(t, b[:cut], api.ErrByte)
		}
		for _, v := range []int{0, 5, 128, 192, 255} {
			refuse(t, seq(b, v), api.ErrByte)
		}
	}
	refuse(t, nil, api.ErrByte)
	refuse(t, []byte{}, api.ErrByte)
}

// TestWrongLengths has heads in which a length stands that belongs elsewhere, or is greater than any.
func TestWrongLengths(t *testing.T) {
	for _, kind := range []int{183, 247} {
		for n := range 300 {
			body := bytes.Repeat([]byte{0}, n)
			shortest := len(lengthBytes(n))
			for m := 1; m <= 8; m++ {
				length := big.NewInt(int64(n)).FillBytes(make([]byte, max(m, shortest)))
				if len(length) != m {
					continue
				}
				b := seq(kind+m, length, body)
				if n >= 56 && m == shortest {
					against(t, b)
					if _, err := rlp.Read(b); err != api.OK {
						t.Fatalf("P401 Read of %d bytes: %d", n, err)
					}
					continue
				}
				refuse(t, b, api.ErrByte)
			}
		}
		for m := 1; m <= 8; m++ {
			for _, v := range []int{1, 127, 128, 255} {
				for _, rest := range []int{0, 1, 100} {
					b := seq(kind+m, v, bytes.Repeat([]byte{255}, m-1), make([]byte, rest))
					if m > 1 || v > rest {
						refuse(t, b, api.ErrByte)
					}
					against(t, b)
					against(t, seq(247+1, len(b), b))
					against(t, seq(b, b))
				}
			}
		}
	}
}

// TestAllShort reads all bytes of length 1 and 2, and longer ones of bytes at which something turns.
func TestAllShort(t *testing.T) {
	all := make([]int, 256)
	for v := range all {
		all[v] = v
	}
	tries := []struct {
		length int
		bytes  []int
	}{
		{1, all}, {2, all},
		{3, []int{0, 1, 2, 55, 56, 57, 127, 128, 129, 130, 131, 182, 183, 184, 185, 190, 191, 192, 193, 194, 195, 246, 247, 248, 249, 254, 255}},
		{4, []int{0, 1, 56, 127, 128, 129, 130, 131, 184, 191, 192, 193, 194, 195, 248, 255}},
		{5, []int{0, 127, 128, 129, 130, 192, 193, 194, 195, 196}},
		{6, []int{1, 128, 129, 192, 193, 194, 197}},
	}
	for _, c := range tries {
		b := make([]byte, c.length)
		total := 1
		for range c.length {
			total *= len(c.bytes)
		}
		for k := range total {
			for i := range b {
				b[i] = byte(c.bytes[k%len(c.bytes)])
				k /= len(c.bytes)
			}
			against(t, b)
		}
	}
}

// TestTurned turns single bytes of encodings.
func TestTurned(t *testing.T) {
	r := noise(3)
	for range 400 {
		b := refPack(nest(r.item(3), r.below(api.MaxDeep)))
		for range 60 {
			turned := bytes.Clone(b)
			for range 1 + r.below(2) {
				turned[r.below(len(b))] = []byte{0, 1, 55, 56, 127, 128, 129, 183, 184, 191, 192, 193, 247, 248, 255, byte(r.below(256))}[r.below(16)]
			}
			against(t, turned)
		}
	}
}

// TestItems packs and reads items of every shape.
func TestItems(t *testing.T) {
	r := noise(4)
	for range 3000 {
		i := nest(r.item(5), r.below(api.MaxDeep-5))
		both(t, i, refPack(i))
	}
}

// TestGreatest has encodings of 2^24 bytes and of one more.
func TestGreatest(t *testing.T) {
	body := make([]byte, most-3)
	body[0] = 200
	// The head of so many bytes has 4 bytes.
	both(t, text(body[:most-4]), seq(186, 255, 255, 252, body[:most-4]))
	long(t, "2^24 + 1 bytes", text(body))
	long(t, "2^24 bytes of text", text(make([]byte, most)))
	long(t, "2^24 + 1 bytes of text", text(make([]byte, most+1)))
	refuse(t, seq(186, 255, 255, 253, body), api.ErrLong)
	refuse(t, make([]byte, most+1), api.ErrLong)
	refuse(t, bytes.Repeat([]byte{255}, most+1), api.ErrLong)
	refuse(t, make([]byte, most), api.ErrByte)
	refuse(t, bytes.Repeat([]byte{255}, most), api.ErrByte)

	inner := text(body[:most-8])
	both(t, list(inner), seq(250, 255, 255, 252, 186, 255, 255, 248, inner.Bytes))
	long(t, "a list of 2^24 + 1 bytes", list(text(body[:most-7])))
	long(t, "a list of 2^24 + 1 bytes", list(inner, text([]byte{5})))
	long(t, "a list of 2^24 + 1 bytes", list(text(nil), inner))
	refuse(t, seq(250, 255, 255, 253, 5, 186, 255, 255, 248, inner.Bytes), api.ErrLong)
	long(t, "a list of which another is too long", list(list(inner)))
	half := text(body[:most/2-6])
	both(t, list(half, half), seq(250, 255, 255, 252, 186, 127, 255, 250, half.Bytes, 186, 127, 255, 250, half.Bytes))
	long(t, "two byte strings", list(half, text(body[:most/2-5])))
}

// TestManyItems has lists of many items whose encoding has 2^24 bytes, or one more.
func TestManyItems(t *testing.T) {
	// Rows share their items: 4096 rows of 4093 bytes and a head of 3 bytes are 2^24 bytes.
	row := list(text(make([]byte, 3900)), list(text(make([]byte, 80)), list(), text(nil)), text(seq(200)))
	row.List = append(row.List, slices.Repeat([]api.Item{text([]byte{1})}, 4096-len(refPack(row)))...)
	rows := slices.Repeat([]api.Item{row}, 4096)
	long(t, "4096 rows", list(rows...))
	rows[0] = list(row.List[:len(row.List)-3]...)
	long(t, "4096 rows, with one byte too many", list(rows...))
	rows[0] = list(row.List[:len(row.List)-4]...)
	b, err := rlp.Pack(list(rows...))
	if err != api.OK || len(b) != most || !bytes.Equal(b, refPack(list(rows...))) {
		t.Fatalf("P401 Pack of 2^24 bytes of items: %d, %d bytes", err, len(b))
	}
	if i, err := rlp.Read(b); err != api.OK || !same(i, list(rows...)) {
		t.Errorf("P401 Read of 2^24 bytes of items: %d", err)
	}
}

// TestEndless has items that contain themselves, and items whose parts occur so often that nobody could go over them all.
func TestEndless(t *testing.T) {
	self := api.Item{IsList: true, List: make([]api.Item, 3)}
	self.List[1] = self
	long(t, "an item in itself", self)
	self.List[0], self.List[2] = self, self
	long(t, "an item thrice in itself", self)

	wide := api.Item{IsList: true, List: make([]api.Item, 1<<20)}
	wide.List[len(wide.List)-1] = wide
	long(t, "a wide item in itself", wide)

	twice := text(nil)
	for range api.MaxDeep {
		twice = list(twice, twice)
	}
	long(t, "2^32 byte strings", twice)
}

// numbers has words whose bits are all 1 up to a place, and their neighbours.
func numbers() []*big.Int {
	list := []*big.Int{big.NewInt(0)}
	for bit := range uint(257) {
		power := new(big.Int).Lsh(big.NewInt(1), bit)
		for _, d := range []int64{-1, 0, 1} {
			if n := new(big.Int).Add(power, big.NewInt(d)); n.Sign() >= 0 && n.BitLen() <= 256 {
				list = append(list, n)
			}
		}
	}
	r := noise(5)
	for range 500 {
		list = append(list, new(big.Int).SetBytes(r.bytes(r.below(33))))
	}
	return list
}

func TestNum(t *testing.T) {
	for _, n := range numbers() {
		if !n.IsInt64() {
			continue
		}
		if i := rlp.Num(int(n.Int64())); !same(i, text(n.Bytes())) {
			t.Fatalf("P402 Num(%d): %v", n, i)
		}
		if i := rlp.Num(-int(n.Int64())); !empty(i) {
			t.Fatalf("P402 Num(-%d): %v", n, i)
		}
	}
	for _, n := range []int{-1, -2, -256, math.MinInt, math.MinInt + 1} {
		if i := rlp.Num(n); !empty(i) {
			t.Errorf("P402 Num(%d): %v", n, i)
		}
	}
	if i := rlp.Num(math.MaxInt); !same(i, text(seq(127, strings.Repeat("\xff", 7)))) {
		t.Errorf("P402 Num(2^63 - 1): %v", i)
	}
	for n := range 70000 {
		if i := rlp.Num(n); !same(i, text(lengthBytes(n))) {
			t.Fatalf("P402 Num(%d): %v", n, i)
		}
	}
}

func TestBig(t *testing.T) {
	for _, n := range numbers() {
		w := api.Word(n.FillBytes(make([]byte, 32)))
		i := rlp.Big(w)
		if !same(i, text(n.Bytes())) {
			t.Fatalf("P402 Big of %x: %v", w, i)
		}
		if back, ok := rlp.Word(i); !ok || back != w {
			t.Fatalf("P402 Word of %v: %x, %v", i, back, ok)
		}
	}
}

// noNumber demands that neither Int nor Word returns anything.
func noNumber(t *testing.T, i api.Item) {
	t.Helper()
	if n, ok := rlp.Int(i); ok || n != 0 {
		t.Errorf("P402 Int of %v: %d, %v", i, n, ok)
	}
	if w, ok := rlp.Word(i); ok || w != (api.Word{}) {
		t.Errorf("P402 Word of %v: %x, %v", i, w, ok)
	}
}

func TestIntAndWord(t *testing.T) {
	for _, n := range numbers() {
		i := text(n.Bytes())
		if w, ok := rlp.Word(i); !ok || w != api.Word(n.FillBytes(make([]byte, 32))) {
			t.Fatalf("P402 Word of %v: %x, %v", i, w, ok)
		}
		got, ok := rlp.Int(i)
		if n.IsInt64() && (!ok || int64(got) != n.Int64()) || !n.IsInt64() && (ok || got != 0) {
			t.Fatalf("P402 Int of %v: %d, %v", i, got, ok)
		}
		// A leading zero, also where the number had room for it.
		noNumber(t, text(seq(0, i.Bytes)))
		noNumber(t, text(seq(0, 0, i.Bytes)))
		noNumber(t, api.Item{IsList: true, Bytes: i.Bytes})
		noNumber(t, list(i))
	}
	for n := range 40 {
		noNumber(t, text(make([]byte, n+1)))
		noNumber(t, text(seq(1, make([]byte, 32+n))))
		noNumber(t, text(bytes.Repeat([]byte{255}, 33+n)))
	}
	noNumber(t, list())
	noNumber(t, list(list()))
	for _, i := range []api.Item{{}, {Bytes: []byte{}}, {List: []api.Item{list()}}} {
		n, ok := rlp.Int(i)
		w, okWord := rlp.Word(i)
		if n != 0 || !ok || w != (api.Word{}) || !okWord {
			t.Errorf("P402 Int and Word of the empty byte string: %d, %v, %x, %v", n, ok, w, okWord)
		}
	}
	ignored := api.Item{Bytes: []byte{1, 0}, List: []api.Item{list()}}
	if n, ok := rlp.Int(ignored); n != 256 || !ok {
		t.Errorf("P402 Int, List being ignored: %d, %v", n, ok)
	}
	if w, ok := rlp.Word(ignored); w != word.Of(256) || !ok {
		t.Errorf("P402 Word, List being ignored: %x, %v", w, ok)
	}
	if n, ok := rlp.Int(text(seq(128, make([]byte, 7)))); n != 0 || ok {
		t.Errorf("P402 Int of 2^63: %d, %v", n, ok)
	}
	if n, ok := rlp.Int(text(seq(1, make([]byte, 8)))); n != 0 || ok {
		t.Errorf("P402 Int of 2^64: %d, %v", n, ok)
	}
}

// spoil turns all bytes and items of i, and those in the spare capacity of its slices.
func spoil(i *api.Item) {
	i.IsList = !i.IsList
	for k := range i.Bytes[:cap(i.Bytes)] {
		i.Bytes[:cap(i.Bytes)][k] ^= 0xff
	}
	items := i.List[:cap(i.List)]
	for k := range items {
		spoil(&items[k])
	}
}

// spacious is a copy of i whose slices have spare capacity.
func spacious(i api.Item) api.Item {
	c := api.Item{IsList: i.IsList, Bytes: append(make([]byte, 0, len(i.Bytes)+5), i.Bytes...)}
	c.List = make([]api.Item, 0, len(i.List)+2)
	for _, sub := range i.List {
		c.List = append(c.List, spacious(sub))
	}
	spare := c.List[len(c.List):cap(c.List)]
	for k := range spare {
		spare[k] = text([]byte("spare"))
	}
	copy(c.Bytes[len(c.Bytes):cap(c.Bytes)], "spare")
	return c
}

// TestArguments demands that what is given stays as it is, with the spare capacity, and that the results share nothing with it.
func TestArguments(t *testing.T) {
	r := noise(6)
	for range 300 {
		plain := r.item(4)
		i, again := spacious(plain), spacious(plain)
		b, err := rlp.Pack(i)
		if err != api.OK || !slices.EqualFunc([]api.Item{i}, []api.Item{again}, sameWithSpare) {
			t.Fatalf("P403 Pack changes its argument: %d", err)
		}
		spoil(&i)
		if !bytes.Equal(b, refPack(plain)) {
			t.Fatal("P403 Pack: its result shares memory with its argument")
		}

		room := append(make([]byte, 0, len(b)+9), b...)
		copy(room[len(b):cap(room)], "the spare")
		got, err := rlp.Read(room)
		if err != api.OK || !bytes.Equal(room, b) || string(room[len(b):cap(room)]) != "the spare" {
			t.Fatalf("P403 Read changes its argument: %d", err)
		}
		clear(room[:cap(room)])
		if !same(got, plain) {
			t.Fatal("P403 Read: its result shares memory with its argument")
		}
	}
}

// sameWithSpare is same, and compares what is in the spare capacity too.
func sameWithSpare(a, b api.Item) bool {
	return a.IsList == b.IsList && len(a.Bytes) == len(b.Bytes) && len(a.List) == len(b.List) && cap(a.Bytes) == cap(b.Bytes) && cap(a.List) == cap(b.List) &&
		bytes.Equal(a.Bytes[:cap(a.Bytes)], b.Bytes[:cap(b.Bytes)]) && slices.EqualFunc(a.List[:cap(a.List)], b.List[:cap(b.List)], sameWithSpare)
}

// TestFresh demands that the slices of a result share nothing with one another, nor with those of another result.
func TestFresh(t *testing.T) {
	b := refPack(list(text([]byte("dog")), text([]byte("dog")), list(text([]byte{5}), text([]byte{5}), list(), list()), text(bytes.Repeat([]byte{1}, 60))))
	first, _ := rlp.Read(b)
	second, _ := rlp.Read(b)
	want, _ := refRead(bytes.Clone(b))
	spoil(&first)
	if !same(second, want) {
		t.Error("P403 Read: two results share memory")
	}
	var slicesOf func(i *api.Item) [][]byte
	slicesOf = func(i *api.Item) [][]byte {
		all := [][]byte{i.Bytes}
		for k := range i.List {
			all = append(all, slicesOf(&i.List[k])...)
		}
		i.List = append(i.List, text([]byte("more")), text([]byte("more")))
		return all
	}
	parts := slicesOf(&second)
	for k, p := range parts {
		copies := make([][]byte, len(parts))
		for j := range parts {
			copies[j] = bytes.Clone(parts[j])
		}
		for j := range p[:cap(p)] {
			p[:cap(p)][j] ^= 0xff
		}
		for j := range parts {
			if j != k && !bytes.Equal(parts[j], copies[j]) {
				t.Fatal("P403 Read: two slices of a result share memory")
			}
		}
	}
	packed, _ := rlp.Pack(want)
	clear(packed[:cap(packed)])
	if again, _ := rlp.Pack(want); !bytes.Equal(again, b) {
		t.Error("P403 Pack: two results share memory")
	}
	for _, n := range []int{0, 1, 255, 256, math.MaxInt} {
		one, two := rlp.Num(n), rlp.Num(n)
		spoil(&one)
		if !same(two, text(lengthBytes(n))) {
			t.Errorf("P403 Num(%d): two results share memory", n)
		}
		one, two = rlp.Big(word.Of(n)), rlp.Big(word.Of(n))
		spoil(&one)
		if !same(two, text(lengthBytes(n))) {
			t.Errorf("P403 Big(%d): two results share memory", n)
		}
	}
}

// TestTogether calls everything from many goroutines at once, with one argument for all.
func TestTogether(t *testing.T) {
	r := noise(7)
	i := list(r.item(4), r.item(4), text(r.bytes(500)))
	b := refPack(i)
	var all sync.WaitGroup
	for range 8 {
		all.Go(func() {
			for range 200 {
				packed, err := rlp.Pack(i)
				if err != api.OK || !bytes.Equal(packed, b) {
					t.Error("P403 Pack beside others")
				}
				read, err := rlp.Read(b)
				if err != api.OK || !same(read, i) {
					t.Error("P403 Read beside others")
				}
				if n, ok := rlp.Int(rlp.Num(77777)); n != 77777 || !ok {
					t.Error("P403 Int of Num beside others")
				}
			}
		})
	}
	all.Wait()
}

func BenchmarkPack(b *testing.B) {
	i, _ := refRead(refPack(branch()))
	for b.Loop() {
		rlp.Pack(i)
	}
}

func BenchmarkRead(b *testing.B) {
	packed := refPack(branch())
	for b.Loop() {
		rlp.Read(packed)
	}
}

// branch is a list like those of a trie: 16 hashes and no value.
func branch() api.Item {
	r := noise(8)
	i := list()
	for range 16 {
		i.List = append(i.List, text(r.bytes(32)))
	}
	i.List = append(i.List, text(nil))
	return i
}

func BenchmarkReadLong(b *testing.B) {
	i := list(slices.Repeat([]api.Item{text([]byte{1, 2, 3})}, 1<<16)...)
	packed := refPack(i)
	b.SetBytes(int64(len(packed)))
	for b.Loop() {
		rlp.Read(packed)
	}
}
