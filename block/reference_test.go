package block_test

import (
	"bytes"
	"encoding/hex"
	"fmt"
	"math/big"
	"slices"
	"strings"
	"testing"

	"muniments/acct"
	"muniments/api"
	"muniments/keccak"
	"muniments/ops"
	"muniments/state"
	"muniments/tx"
)

// The accounts of the tests. Their first and last bytes are not 0, so that an address is seen to have all of them.
var (
	alice = api.Addr{0: 0xa1, 19: 1}
	bob   = api.Addr{0: 0xb0, 19: 2}
	code1 = api.Addr{0: 0xc0, 10: 7, 19: 1}
	code2 = api.Addr{0: 0xc0, 10: 7, 19: 2}
	miner = api.Addr{0: 0xcb, 19: 5}
)

func number(w api.Word) *big.Int { return new(big.Int).SetBytes(w[:]) }

// of is the word of n, in two's complement.
func of(n int) api.Word {
	high := new(big.Int).Lsh(big.NewInt(1), 256)
	return api.Word(high.Mod(big.NewInt(int64(n)), high).FillBytes(make([]byte, 32)))
}

// highest is the greatest word.
var highest = of(-1)

// wordOf is the word that stands for an account.
func wordOf(a api.Addr) api.Word {
	var w api.Word
	copy(w[12:], a[:])
	return w
}

func unhex(text string) []byte {
	b, err := hex.DecodeString(strings.ReplaceAll(text, " ", ""))
	if err != nil {
		panic(err)
	}
	return b
}

// prog puts a code together: a text has names of instructions; a number, a word or an account is the PUSH of it; bytes stand for themselves.
func prog(parts ...any) []byte {
	var code []byte
	push := func(b []byte) { code = append(append(code, 0x5f+byte(len(b))), b...) }
	for _, p := range parts {
		switch p := p.(type) {
		case string:
			for _, name := range strings.Fields(p) {
				op, ok := ops.Op(name)
				if !ok {
					panic("no instruction: " + name)
				}
				code = append(code, op)
			}
		case int:
			w := of(p)
			push(w[32-max(1, len(number(w).Bytes())):])
		case api.Word:
			push(p[:])
		case api.Addr:
			push(p[:])
		case []byte:
			code = append(code, p...)
		}
	}
	return code
}

// show shortens what a failed test tells.
func show(v any) string {
	s := fmt.Sprintf("%x", v)
	return s[:min(len(s), 2000)]
}

// spacious is l with something in its spare capacity.
func spacious[E any](l []E, e E) []E { return append(slices.Clone(l), e, e, e)[:len(l)] }

// fill makes each element of l the same, with the spare capacity.
func fill[E any](l []E, e E) {
	l = l[:cap(l)]
	for i := range l {
		l[i] = e
	}
}

func sameTx(a, b api.Tx) bool {
	data := bytes.Equal(a.Data, b.Data)
	return data && a.Nonce == b.Nonce && a.Price == b.Price && a.Gas == b.Gas && a.From == b.From && a.To == b.To && a.Make == b.Make && a.Value == b.Value
}

func sameBlock(a, b api.Block) bool {
	txs := slices.EqualFunc(a.Txs, b.Txs, sameTx)
	return txs && a.Parent == b.Parent && a.Number == b.Number && a.Time == b.Time && a.Coinbase == b.Coinbase && a.GasLimit == b.GasLimit && a.GasUsed == b.GasUsed && a.Root == b.Root
}

// isZero: a block without anything.
func isZero(b api.Block) bool { return sameBlock(b, api.Block{}) }

func sameLog(a, b api.Log) bool {
	return a.Addr == b.Addr && slices.Equal(a.Topics, b.Topics) && bytes.Equal(a.Data, b.Data)
}

// sameReceipt: a nil list is like an empty one.
func sameReceipt(a, b api.Receipt) bool {
	return a.Err == b.Err && a.Used == b.Used && bytes.Equal(a.Out, b.Out) && slices.EqualFunc(a.Logs, b.Logs, sameLog) && a.Addr == b.Addr
}

func sameReceipts(a, b []api.Receipt) bool { return slices.EqualFunc(a, b, sameReceipt) }

func sameAccounts(a, b []api.Account) bool {
	return slices.EqualFunc(a, b, func(a, b api.Account) bool {
		return a.Addr == b.Addr && a.Nonce == b.Nonce && a.Balance == b.Balance && bytes.Equal(a.Code, b.Code) && slices.Equal(a.Slots, b.Slots)
	})
}

// called is the transactions with To only where it counts.
func called(l []api.Tx) []api.Tx {
	l = slices.Clone(l)
	for i := range l {
		if l[i].Make {
			l[i].To = api.Addr{}
		}
	}
	return l
}

// The reference: what the chapter says, spelled out plainly.

// refHead is the head for n bytes, of a byte string (128) or of a list (192).
func refHead(kind byte, n int) []byte {
	if n < 56 {
		return []byte{kind + byte(n)}
	}
	length := big.NewInt(int64(n)).Bytes()
	return append([]byte{kind + 55 + byte(len(length))}, length...)
}

// refText is the encoding of a byte string.
func refText(b []byte) []byte {
	if len(b) == 1 && b[0] < 128 {
		return b
	}
	return slices.Concat(refHead(128, len(b)), b)
}

// refNum is the encoding of a number that isn't negative.
func refNum(n int) []byte { return refText(big.NewInt(int64(n)).Bytes()) }

// refList is the encoding of a list of these encoded items.
func refList(items ...[]byte) []byte {
	b := slices.Concat(items...)
	return slices.Concat(refHead(192, len(b)), b)
}

// refTx is the encoding of a transaction without a negative number.
func refTx(t api.Tx) []byte {
	to := t.To[:]
	if t.Make {
		to = nil
	}
	return refList(refNum(t.Nonce), refNum(t.Price), refNum(t.Gas), refText(t.From[:]), refText(to), refText(number(t.Value).Bytes()), refText(t.Data))
}

// refElements is the eight encoded elements of a block without a negative number.
func refElements(b api.Block) [][]byte {
	var txs [][]byte
	for _, t := range b.Txs {
		txs = append(txs, refTx(t))
	}
	return [][]byte{refText(b.Parent[:]), refNum(b.Number), refNum(b.Time), refText(b.Coinbase[:]), refNum(b.GasLimit), refNum(b.GasUsed), refText(b.Root[:]), refList(txs...)}
}

// refPack is the Pack of a block.
func refPack(b api.Block) ([]byte, api.Errno) {
	if b.Number < 0 || b.Time < 0 || b.GasLimit < 0 || b.GasUsed < 0 {
		return nil, api.ErrArg
	}
	for _, t := range b.Txs {
		if t.Nonce < 0 || t.Price < 0 || t.Gas < 0 {
			return nil, api.ErrArg
		}
	}
	raw := refList(refElements(b)...)
	if len(raw) > 131072 {
		return nil, api.ErrLong
	}
	return raw, api.OK
}

// refEnd is what the transactions of a block come to.
type refEnd struct {
	accounts []api.Account
	receipts []api.Receipt
	used     int
	root     api.Word
}

// refRun is what the chapter lists from ErrNumber on, up to the last transaction. Each transaction has a state of its own.
func refRun(l []api.Account, parent, b api.Block) (refEnd, api.Errno) {
	next := big.NewInt(int64(parent.Number))
	next.Add(next, big.NewInt(1))
	if next.Cmp(big.NewInt(int64(b.Number))) != 0 || !(b.Time > parent.Time) {
		return refEnd{}, api.ErrNumber
	}
	if b.GasLimit > 2147483647 {
		return refEnd{}, api.ErrLimit
	}
	end := refEnd{accounts: l}
	for _, t := range b.Txs {
		if all := big.NewInt(int64(t.Gas)); all.Add(all, big.NewInt(int64(end.used))).Cmp(big.NewInt(int64(b.GasLimit))) > 0 {
			return refEnd{}, api.ErrLimit
		}
		s := state.New(end.accounts)
		r, err := tx.Apply(s, t, api.Context{Number: b.Number, Time: b.Time, GasLimit: b.GasLimit, Coinbase: b.Coinbase})
		if err != api.OK {
			return refEnd{}, err
		}
		end.accounts = s.Accounts()
		end.receipts = append(end.receipts, r)
		end.used += r.Used
	}
	end.root, _ = acct.Root(end.accounts)
	return end, api.OK
}

// refExecute is Execute.
func refExecute(l []api.Account, parent, b api.Block) ([]api.Account, []api.Receipt, api.Errno) {
	if _, err := refPack(b); err != api.OK || !acct.May(l) {
		return nil, nil, api.ErrArg
	}
	end, err := refRun(l, parent, b)
	switch {
	case err != api.OK:
		return nil, nil, err
	case b.GasUsed != end.used:
		return nil, nil, api.ErrUsed
	case b.Root != end.root:
		return nil, nil, api.ErrRoot
	}
	return end.accounts, end.receipts, api.OK
}

// refSeal is Seal.
func refSeal(l []api.Account, parent, b api.Block) (api.Block, []api.Account, api.Errno) {
	raw, err := refPack(parent)
	if err != api.OK || !acct.May(l) || parent.Number == 9223372036854775807 {
		return api.Block{}, nil, api.ErrArg
	}
	b.Parent, b.Number, b.GasUsed, b.Root = keccak.Sum(raw), parent.Number+1, 0, api.Word{}
	if _, err := refPack(b); err != api.OK {
		return api.Block{}, nil, api.ErrArg
	}
	end, err := refRun(l, parent, b)
	if err != api.OK {
		return api.Block{}, nil, err
	}
	b.GasUsed, b.Root, b.Txs = end.used, end.root, called(b.Txs)
	return b, end.accounts, api.OK
}

// noise makes numbers that look random and are always the same.
type noise uint32

// below is a number from 0 to most - 1.
func (n *noise) below(most int) int {
	*n = *n*1664525 + 1013904223
	high := uint64(*n >> 8)
	*n = *n*1664525 + 1013904223
	return int((high<<24 | uint64(*n>>8)) % uint64(most))
}

func pick[E any](n *noise, l ...E) E { return l[n.below(len(l))] }

func (n *noise) bytes(count int) []byte {
	b := make([]byte, count)
	for i := range b {
		b[i] = byte(n.below(256))
	}
	return b
}

// count is a number of any size that isn't negative.
func (n *noise) count() int {
	return n.below(1<<47) << 16 >> n.below(64)
}

// word is a number of any size.
func (n *noise) word() api.Word {
	size := n.below(33)
	var w api.Word
	copy(w[32-size:], n.bytes(size))
	return w
}

// tx is a transaction that can be encoded, and nothing more.
func (n *noise) tx() api.Tx {
	t := api.Tx{Nonce: n.count(), Price: n.count(), Gas: n.count(), From: api.Addr(n.bytes(20)), To: api.Addr(n.bytes(20)), Value: n.word(), Data: n.bytes(n.below(80))}
	if n.below(3) == 0 {
		t.Make, t.To = true, api.Addr{}
	}
	return t
}

// block is a block that can be encoded, and nothing more.
func (n *noise) block() api.Block {
	b := api.Block{Parent: n.word(), Number: n.count(), Time: n.count(), Coinbase: api.Addr(n.bytes(20)), GasLimit: n.count(), GasUsed: n.count(), Root: n.word()}
	for range n.below(5) {
		b.Txs = append(b.Txs, n.tx())
	}
	return b
}

// someBlock is a block whose fields are all set, and none like another.
func someBlock() api.Block {
	return api.Block{
		Parent: of(-5), Number: 1, Time: 258, Coinbase: miner, GasLimit: 1 << 40, GasUsed: 1 << 20, Root: of(-6),
		Txs: []api.Tx{
			{Nonce: 1, Price: 2, Gas: 30_000, From: alice, To: bob, Value: of(7), Data: []byte("0123456789")},
			{Nonce: 2, From: bob, Make: true, Data: []byte("abcdefgh")},
			{Nonce: 3, Gas: 9, From: code1, To: code2, Data: []byte("ABC")},
		},
	}
}

func TestReferenceHeads(t *testing.T) {
	for n, want := range map[int]string{0: "c0", 55: "f7", 56: "f838", 255: "f8ff", 256: "f90100", 65536: "fa010000"} {
		if got := refHead(192, n); !bytes.Equal(got, unhex(want)) {
			t.Errorf("the test itself: the head for %d bytes: %x", n, got)
		}
	}
}
