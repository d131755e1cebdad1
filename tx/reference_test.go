package tx_test

import (
	"bytes"
	"encoding/hex"
	"fmt"
	"math/big"
	"slices"
	"strings"
	"testing"

	"muniments/api"
	"muniments/evm"
	"muniments/ops"
	"muniments/state"
)

// The accounts of the tests. Their first and last bytes are not 0, so that an address is seen to have all of them.
var (
	alice = api.Addr{0: 0xa1, 19: 1}
	bob   = api.Addr{0: 0xb0, 19: 2}
	code1 = api.Addr{0: 0xc0, 10: 7, 19: 1}
	code2 = api.Addr{0: 0xc0, 10: 7, 19: 2}
	miner = api.Addr{0: 0xcb, 19: 5}
)

var someContext = api.Context{Number: 77, Time: 1 << 40, GasLimit: 30_000_000, Coinbase: miner, Origin: api.Addr{0: 0x0f, 19: 6}}

func number(w api.Word) *big.Int { return new(big.Int).SetBytes(w[:]) }

// word256 is n modulo 2^256.
func word256(n *big.Int) api.Word {
	high := new(big.Int).Lsh(big.NewInt(1), 256)
	return api.Word(new(big.Int).Mod(n, high).FillBytes(make([]byte, 32)))
}

// of is the word of n, in two's complement.
func of(n int) api.Word { return word256(big.NewInt(int64(n))) }

// power is the word of 2^n + plus.
func power(n uint, plus int64) api.Word {
	return word256(new(big.Int).Add(new(big.Int).Lsh(big.NewInt(1), n), big.NewInt(plus)))
}

// highest is the greatest word.
var highest = of(-1)

// wordOf is the word that stands for an account.
func wordOf(a api.Addr) api.Word {
	var w api.Word
	copy(w[12:], a[:])
	return w
}

func unhex(text string) []byte {
	b, err := hex.DecodeString(strings.ReplaceAll(text, " ", ""))
	if err != nil {
		panic(err)
	}
	return b
}

// prog puts a code together: a text has names of instructions; a number, a word or an account is the PUSH of it; bytes stand for themselves.
func prog(parts ...any) []byte {
	var code []byte
	push := func(b []byte) { code = append(append(code, 0x5f+byte(len(b))), b...) }
	for _, p := range parts {
		switch p := p.(type) {
		case string:
			for _, name := range strings.Fields(p) {
				op, ok := ops.Op(name)
				if !ok {
					panic("no instruction: " + name)
				}
				code = append(code, op)
			}
		case int:
			w := of(p)
			push(w[32-max(1, len(number(w).Bytes())):])
		case api.Word:
			push(p[:])
		case api.Addr:
			push(p[:])
		case []byte:
			code = append(code, p...)
		}
	}
	return code
}

// show shortens what a failed test tells.
func show(v any) string {
	s := fmt.Sprintf("%x", v)
	return s[:min(len(s), 2000)]
}

// spacious is b with something in its spare capacity.
func spacious(b []byte) []byte { return append(slices.Clone(b), 77, 77, 77)[:len(b)] }

// tight reports whether b still has what spacious put behind its end.
func tight(b []byte) bool { return bytes.Equal(b[len(b):len(b)+3], []byte{77, 77, 77}) }

// fill makes each element of l the same, with the spare capacity.
func fill[E any](l []E, e E) {
	l = l[:cap(l)]
	for i := range l {
		l[i] = e
	}
}

func sameTx(a, b api.Tx) bool {
	data := bytes.Equal(a.Data, b.Data)
	return data && a.Nonce == b.Nonce && a.Price == b.Price && a.Gas == b.Gas && a.From == b.From && a.To == b.To && a.Make == b.Make && a.Value == b.Value
}

// isZero: a transaction without anything.
func isZero(t api.Tx) bool { return sameTx(t, api.Tx{}) }

func sameItem(a, b api.Item) bool {
	return a.IsList == b.IsList && bytes.Equal(a.Bytes, b.Bytes) && slices.EqualFunc(a.List, b.List, sameItem)
}

func sameLog(a, b api.Log) bool {
	return a.Addr == b.Addr && slices.Equal(a.Topics, b.Topics) && bytes.Equal(a.Data, b.Data)
}

// sameReceipt: a nil list is like an empty one.
func sameReceipt(a, b api.Receipt) bool {
	return a.Err == b.Err && a.Used == b.Used && bytes.Equal(a.Out, b.Out) && slices.EqualFunc(a.Logs, b.Logs, sameLog) && a.Addr == b.Addr
}

func sameAccounts(a, b []api.Account) bool {
	return slices.EqualFunc(a, b, func(a, b api.Account) bool {
		return a.Addr == b.Addr && a.Nonce == b.Nonce && a.Balance == b.Balance && bytes.Equal(a.Code, b.Code) && slices.Equal(a.Slots, b.Slots)
	})
}

// The reference: what the chapter says, spelled out plainly.

// refHead is the head for n bytes, of a byte string (128) or of a list (192).
func refHead(kind byte, n int) []byte {
	if n < 56 {
		return []byte{kind + byte(n)}
	}
	length := big.NewInt(int64(n)).Bytes()
	return append([]byte{kind + 55 + byte(len(length))}, length...)
}

// refText is the encoding of a byte string.
func refText(b []byte) []byte {
	if len(b) == 1 && b[0] < 128 {
		return b
	}
	return slices.Concat(refHead(128, len(b)), b)
}

// refList is the encoding of a list of these encoded items.
func refList(items ...[]byte) []byte {
	b := slices.Concat(items...)
	return slices.Concat(refHead(192, len(b)), b)
}

// refParts is the seven byte strings of a transaction without a negative number.
func refParts(t api.Tx) [][]byte {
	l := [][]byte{}
	for _, n := range []int{t.Nonce, t.Price, t.Gas} {
		l = append(l, big.NewInt(int64(n)).Bytes())
	}
	to := t.To[:]
	if t.Make {
		to = nil
	}
	return append(l, t.From[:], to, number(t.Value).Bytes(), t.Data)
}

// refItem is the Item of a transaction without a negative number.
func refItem(t api.Tx) api.Item {
	i := api.Item{IsList: true}
	for _, b := range refParts(t) {
		i.List = append(i.List, api.Item{Bytes: bytes.Clone(b)})
	}
	return i
}

// refPack is the Pack of a transaction without a negative number.
func refPack(t api.Tx) []byte {
	var l [][]byte
	for _, b := range refParts(t) {
		l = append(l, refText(b))
	}
	return refList(l...)
}

// refChange returns l with another account at a; what has nothing is no account.
func refChange(l []api.Account, a api.Addr, f func(a *api.Account)) []api.Account {
	l = slices.Clone(l)
	i := slices.IndexFunc(l, func(x api.Account) bool { return x.Addr == a })
	if i < 0 {
		i = len(l)
		l = append(l, api.Account{Addr: a})
	}
	f(&l[i])
	l = slices.DeleteFunc(l, func(x api.Account) bool {
		return x.Nonce == 0 && x.Balance == api.Word{} && len(x.Code) == 0 && len(x.Slots) == 0
	})
	slices.SortFunc(l, func(x, y api.Account) int { return bytes.Compare(x.Addr[:], y.Addr[:]) })
	return l
}

// refGive returns l with n more in a balance, or with the greatest one.
func refGive(l []api.Account, a api.Addr, n *big.Int) []api.Account {
	return refChange(l, a, func(x *api.Account) {
		sum := new(big.Int).Add(number(x.Balance), n)
		if sum.BitLen() > 256 {
			sum = number(highest)
		}
		x.Balance = word256(sum)
	})
}

// refIntrinsic is what a transaction costs before its execution.
func refIntrinsic(t api.Tx) int {
	n := 21000
	if t.Make {
		n += 32000
	}
	for _, b := range t.Data {
		n += 4
		if b != 0 {
			n += 12
		}
	}
	return n
}

// refApply is Apply on these accounts, which are by rising address. The message has a state of its own.
func refApply(l []api.Account, t api.Tx, c api.Context) ([]api.Account, api.Receipt, api.Errno) {
	var from api.Account
	for _, a := range l {
		if a.Addr == t.From {
			from = a
		}
	}
	price := big.NewInt(int64(t.Price))
	all := new(big.Int).Mul(price, big.NewInt(int64(t.Gas)))
	switch {
	case t.Nonce < 0, t.Price < 0, t.Gas < 0, t.Price > 2147483647, t.Gas > 2147483647:
		return l, api.Receipt{}, api.ErrArg
	case t.Nonce != from.Nonce, t.Nonce >= 4611686018427387904:
		return l, api.Receipt{}, api.ErrNonce
	case refIntrinsic(t) > t.Gas:
		return l, api.Receipt{}, api.ErrGas
	case number(from.Balance).Cmp(new(big.Int).Add(all, number(t.Value))) < 0:
		return l, api.Receipt{}, api.ErrFunds
	}
	l = refGive(l, t.From, new(big.Int).Neg(all))
	m := api.Message{Kind: 3, From: t.From, Value: t.Value, Data: t.Data, Gas: t.Gas - refIntrinsic(t)}
	if !t.Make {
		l = refChange(l, t.From, func(x *api.Account) { x.Nonce++ })
		m.Kind, m.To = 0, t.To
	}
	s := state.New(l)
	o := evm.Run(s, m, api.Context{Number: c.Number, Time: c.Time, GasLimit: c.GasLimit, Coinbase: c.Coinbase, Origin: t.From})
	used := t.Gas - o.Gas
	l = refGive(s.Accounts(), t.From, new(big.Int).Mul(price, big.NewInt(int64(o.Gas))))
	l = refGive(l, c.Coinbase, new(big.Int).Mul(price, big.NewInt(int64(used))))
	return l, api.Receipt{Err: o.Err, Used: used, Out: o.Out, Logs: o.Logs, Addr: o.Addr}, api.OK
}

// noise makes numbers that look random and are always the same.
type noise uint32

// below is a number from 0 to most - 1.
func (n *noise) below(most int) int {
	*n = *n*1664525 + 1013904223
	high := uint64(*n >> 8)
	*n = *n*1664525 + 1013904223
	return int((high<<24 | uint64(*n>>8)) % uint64(most))
}

func pick[E any](n *noise, l ...E) E { return l[n.below(len(l))] }

func (n *noise) bytes(count int) []byte {
	b := make([]byte, count)
	for i := range b {
		b[i] = byte(n.below(256))
	}
	return b
}

// count is a number of any size that isn't negative.
func (n *noise) count() int {
	return n.below(1<<47) << 16 >> n.below(64)
}

// word is a number of any size.
func (n *noise) word() api.Word {
	size := n.below(33)
	var w api.Word
	copy(w[32-size:], n.bytes(size))
	return w
}

// tx is a transaction that can be encoded, and nothing more.
func (n *noise) tx() api.Tx {
	t := api.Tx{Nonce: n.count(), Price: n.count(), Gas: n.count(), From: api.Addr(n.bytes(20)), To: api.Addr(n.bytes(20)), Value: n.word(), Data: n.bytes(n.below(80))}
	if n.below(3) == 0 {
		t.Make, t.To = true, api.Addr{}
	}
	return t
}

// someTx is a transaction whose fields are all set, and none like another.
func someTx() api.Tx {
	return api.Tx{Nonce: 1, Price: 258, Gas: 1 << 40, From: alice, To: bob, Value: power(200, 5), Data: []byte("0123456789")}
}

func TestReferenceHeads(t *testing.T) {
	for n, want := range map[int]string{0: "c0", 55: "f7", 56: "f838", 255: "f8ff", 256: "f90100", 65536: "fa010000"} {
		if got := refHead(192, n); !bytes.Equal(got, unhex(want)) {
			t.Errorf("the test itself: the head for %d bytes: %x", n, got)
		}
	}
}
