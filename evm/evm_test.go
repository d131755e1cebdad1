package evm_test

import (
	"bytes"
	"encoding/hex"
	"fmt"
	"slices"
	"strings"
	"testing"

	"muniments/api"
	"muniments/evm"
	"muniments/ops"
	"muniments/state"
)

// The accounts of the tests. Their first bytes are not 0, so that an address is seen to have all of them.
var (
	alice = api.Addr{0: 0xa1, 19: 1}
	code1 = api.Addr{0: 0xc0, 10: 7, 19: 1}
	code2 = api.Addr{0: 0xc0, 10: 7, 19: 2}
	code3 = api.Addr{0: 0xc0, 10: 7, 19: 3}
	plain = api.Addr{0: 0xf0, 19: 9}
	empty = api.Addr{0: 0xee, 19: 0xee}
)

var someContext = api.Context{Number: 77, Time: 1 << 40, GasLimit: 30_000_000, Coinbase: api.Addr{0: 0xcb, 19: 5}, Origin: api.Addr{0: 0x0f, 19: 6}}

// prog puts a code together: a text has names of instructions; a number, a word or an account is the PUSH of it; bytes stand for themselves.
func prog(parts ...any) []byte {
	var code []byte
	push := func(b []byte) { code = append(append(code, 0x5f+byte(len(b))), b...) }
	for _, p := range parts {
		switch p := p.(type) {
		case string:
			for _, name := range strings.Fields(p) {
				op, ok := ops.Op(name)
				if !ok {
					panic("no instruction: " + name)
				}
				code = append(code, op)
			}
		case int:
			w := of(p)
			push(w[slices.IndexFunc(append(w[:31:31], 1), func(b byte) bool { return b != 0 }):])
		case api.Word:
			push(p[:])
		case api.Addr:
			push(p[:])
		case []byte:
			code = append(code, p...)
		}
	}
	return code
}

// wordOf is the word that stands for an account.
func wordOf(a api.Addr) api.Word {
	var w api.Word
	copy(w[12:], a[:])
	return w
}

func sameLog(a, b api.Log) bool {
	return a.Addr == b.Addr && slices.Equal(a.Topics, b.Topics) && bytes.Equal(a.Data, b.Data)
}

// sameOutcome: a nil list is like an empty one.
func sameOutcome(a, b api.Outcome) bool {
	return a.Gas == b.Gas && a.Err == b.Err && bytes.Equal(a.Out, b.Out) && slices.EqualFunc(a.Logs, b.Logs, sameLog) && a.Addr == b.Addr
}

func sameAccounts(a, b []api.Account) bool {
	return slices.EqualFunc(a, b, func(a, b api.Account) bool {
		return a.Addr == b.Addr && a.Nonce == b.Nonce && a.Balance == b.Balance && bytes.Equal(a.Code, b.Code) && slices.Equal(a.Slots, b.Slots)
	})
}

// text shortens what a failed test tells.
func text(v any) string {
	s := fmt.Sprintf("%x", v)
	return s[:min(len(s), 2000)]
}

// play runs m on a state with these accounts, and demands what the reference comes to.
func play(t *testing.T, name string, l []api.Account, m api.Message, c api.Context) (api.Outcome, *state.State) {
	t.Helper()
	s := state.New(l)
	got := evm.Run(s, m, c)
	ref := newRefWorld(l, c)
	want := ref.run(m)
	if ref.unclear {
		return got, s
	}
	if !sameOutcome(got, want) {
		t.Fatalf("P1501 %s: outcome %s\nnot %s", name, text(got), text(want))
	}
	if now, list := s.Accounts(), ref.list(); !sameAccounts(now, list) {
		t.Fatalf("P1501 %s: accounts %s\nnot %s", name, text(now), text(list))
	}
	return got, s
}

// execute plays a KCall of alice to an account that has this code, and nothing else but 1000.
func execute(t *testing.T, name string, code []byte, gas int) (api.Outcome, *state.State) {
	t.Helper()
	return play(t, name, []api.Account{{Addr: code1, Balance: of(1000), Code: code}}, api.Message{From: alice, To: code1, Gas: gas}, someContext)
}

// ends demands the gas that is left, the error, and what was returned.
func ends(t *testing.T, name string, o api.Outcome, gas int, err api.Errno, out []byte) {
	t.Helper()
	if o.Gas != gas || o.Err != err || !bytes.Equal(o.Out, out) {
		t.Errorf("P1501 %s: gas %d, error %d, out %s; not %d, %d, %s", name, o.Gas, o.Err, text(o.Out), gas, err, text(out))
	}
}

// returns is the code that returns the last value of the stack.
func returns() []byte { return prog("PUSH0 MSTORE", 32, "PUSH0 RETURN") }

// value is what the code leaves on the stack.
func value(t *testing.T, name string, code []byte) api.Word {
	t.Helper()
	o, _ := execute(t, name, slices.Concat(code, returns()), plenty)
	if o.Err != api.OK || len(o.Out) != 32 {
		t.Fatalf("P1501 %s: %s", name, text(o))
	}
	return api.Word(o.Out)
}

// TestExamples has the examples of the chapter.
func TestExamples(t *testing.T) {
	o, s := execute(t, "PUSH1 5, PUSH0, SSTORE", []byte{0x60, 5, 0x5f, 0x55}, 100_000)
	ends(t, "PUSH1 5, PUSH0, SSTORE", o, 100_000-20005, api.OK, nil)
	if s.Slot(code1, of(0)) != of(5) {
		t.Errorf("P1501 the value for the key 0: %x", s.Slot(code1, of(0)))
	}
	o, s = execute(t, "PUSH1 5, PUSH1 0, SSTORE", []byte{0x60, 5, 0x60, 0, 0x55}, 100_000)
	ends(t, "PUSH1 5, PUSH1 0, SSTORE", o, 100_000-20006, api.OK, nil)
	if s.Slot(code1, of(0)) != of(5) {
		t.Errorf("P1501 the value for the key 0: %x", s.Slot(code1, of(0)))
	}
	o, s = execute(t, "the script of chapter 29", prog(5, 0, "SSTORE"), 30_000)
	ends(t, "the script of chapter 29", o, 9994, api.OK, nil)
}

func unhex(s string) []byte {
	b, err := hex.DecodeString(s)
	if err != nil {
		panic(err)
	}
	return b
}

// TestAddress has addresses that are known from elsewhere.
func TestAddress(t *testing.T) {
	from := api.Addr(unhex("6ac7ea33f8831ea9dcc53393aaa88b25a785dbf0"))
	for nonce, want := range map[int]string{
		0: "cd234a471b72ba2f1ccf0a70fcaba648a5eecd8d", 1: "343c43a37d37dff08ae8c4a11544c718abb4fcf8",
		2: "f778b86fa74e846c4f0a1fbd1335fe81c00a0c91", 3: "fffd933a0bc612844eaf0c6fe3e5b8e9b6c1d19c",
	} {
		if got := evm.Address(from, nonce); !bytes.Equal(got[:], unhex(want)) {
			t.Errorf("P1502 Address of the nonce %d: %x, not %s", nonce, got, want)
		}
	}
	for _, nonce := range []int{0, 1, 55, 56, 127, 128, 129, 255, 256, 257, 65535, 65536, 1 << 24, 1 << 32, 1<<62 - 1, 1 << 62, 1<<63 - 1} {
		for _, from := range []api.Addr{{}, {19: 1}, {0: 1}, alice, api.Addr(bytes.Repeat([]byte{255}, 20))} {
			if got, want := evm.Address(from, nonce), refAddress(from, nonce); got != want {
				t.Errorf("P1502 Address(%x, %d): %x, not %x", from, nonce, got, want)
			}
		}
	}
	for _, nonce := range []int{-1, -5, -1 << 63} {
		if evm.Address(from, nonce) != evm.Address(from, 0) {
			t.Errorf("P1502 Address of the nonce %d is not that of 0, whose rlp.Num is the same", nonce)
		}
	}
}

// TestAddress2 has addresses that are known from elsewhere.
func TestAddress2(t *testing.T) {
	for _, x := range []struct{ from, salt, data, want string }{
		{strings.Repeat("00", 20), strings.Repeat("00", 32), "00", "4d1a2e2bb4f88f0250f26ffff098b0b30b26bf38"},
		{"deadbeef" + strings.Repeat("00", 16), strings.Repeat("00", 32), "00", "b928f69bb1d91cd65274e3c79d8986362984fda3"},
		{"deadbeef" + strings.Repeat("00", 16), strings.Repeat("00", 12) + "feed" + strings.Repeat("00", 18), "00", "d04116cdd17bebe565eb2422f2497e06cc1c9833"},
		{strings.Repeat("00", 20), strings.Repeat("00", 32), "deadbeef", "70f2b2914a2a4b783faefb75f459a580616fcb5e"},
		{strings.Repeat("00", 16) + "deadbeef", strings.Repeat("00", 28) + "cafebabe", "deadbeef", "60f3f640a8508fc6a86d45df051962668e1e8ac7"},
		{strings.Repeat("00", 16) + "deadbeef", strings.Repeat("00", 28) + "cafebabe", strings.Repeat("deadbeef", 11), "1d8bfdc5d46dc4f61d6b6115972536ebe6a8854c"},
		{strings.Repeat("00", 20), strings.Repeat("00", 32), "", "e33c0c7f7df4809055c3eba6c09cfe4baf1bd9e0"},
	} {
		got := evm.Address2(api.Addr(unhex(x.from)), api.Word(unhex(x.salt)), unhex(x.data))
		if !bytes.Equal(got[:], unhex(x.want)) {
			t.Errorf("P1502 Address2(%s, %s, %s): %x, not %s", x.from, x.salt, x.data, got, x.want)
		}
	}
	for _, n := range []int{0, 1, 31, 32, 135, 136, 137, 1000} {
		data := bytes.Repeat([]byte{byte(n), 1}, n)
		if got, want := evm.Address2(alice, of(n), data), refAddress2(alice, of(n), data); got != want {
			t.Errorf("P1502 Address2 of %d bytes: %x, not %x", len(data), got, want)
		}
	}
}
