package evm_test

import (
	"bytes"
	"slices"
	"testing"

	"muniments/api"
	"muniments/keccak"
	"muniments/ops"
	"muniments/state"
)

// someWords are words at which something may turn.
func someWords() []api.Word {
	return []api.Word{
		of(0), of(1), of(2), of(3), of(7), of(8), of(30), of(31), of(32), of(33), of(127), of(128), of(255), of(256), of(257), of(65535),
		power(63, -1), power(63, 0), power(64, -1), power(64, 0), power(64, 5), power(128, 1), power(160, -1), power(160, 7), power(255, -1), power(255, 0), power(255, 1),
		of(-1), of(-2), of(-3), of(-7), of(-128), of(-256), wordOf(alice), api.Word(bytes.Repeat([]byte{0x5a, 0xa5}, 16)), api.Word(bytes.Repeat([]byte{0, 255, 1, 128}, 8)),
	}
}

// TestCompute has the instructions that compute, with all pairs of words.
func TestCompute(t *testing.T) {
	words := someWords()
	for _, op := range slices.Concat(between(0x01, 0x0b), between(0x10, 0x1d)) {
		name := ops.Name(op)
		for i, a := range words {
			for k, b := range words {
				in := []any{words[(i*7+k*3)%len(words)], b, a}[3-ops.Pops(op):]
				execute(t, name+" of "+text(in), slices.Concat(prog(in...), []byte{op}, returns()), plenty)
			}
		}
	}
}

func between(first, last byte) []byte {
	var l []byte
	for b := first; b <= last; b++ {
		l = append(l, b)
	}
	return l
}

// TestComputed has some results by hand, with operands whose order matters.
func TestComputed(t *testing.T) {
	for _, x := range []struct {
		name  string
		code  []byte
		wants api.Word
	}{
		{"2 + 3", prog(3, 2, "ADD"), of(5)}, {"3 * 5", prog(5, 3, "MUL"), of(15)}, {"3 - 5", prog(5, 3, "SUB"), of(-2)},
		{"7 / 2", prog(2, 7, "DIV"), of(3)}, {"7 / 0", prog(0, 7, "DIV"), of(0)}, {"-7 / 2", prog(2, of(-7), "SDIV"), of(-3)},
		{"7 mod 4", prog(4, 7, "MOD"), of(3)}, {"-7 mod 4", prog(4, of(-7), "SMOD"), of(-3)},
		{"5 + 6 mod 7", prog(7, 6, 5, "ADDMOD"), of(4)}, {"5 * 6 mod 7", prog(7, 6, 5, "MULMOD"), of(2)}, {"-1 + -1 mod 10", prog(10, of(-1), of(-1), "ADDMOD"), of(0)},
		{"2 to the power of 5", prog(5, 2, "EXP"), of(32)}, {"0 to the power of 0", prog(0, 0, "EXP"), of(1)},
		{"the lowest byte of 255, signed", prog(255, 0, "SIGNEXTEND"), of(-1)}, {"the two lowest bytes of 255, signed", prog(255, 1, "SIGNEXTEND"), of(255)},
		{"1 < 2", prog(2, 1, "LT"), of(1)}, {"2 < 1", prog(1, 2, "LT"), of(0)}, {"1 > 2", prog(2, 1, "GT"), of(0)}, {"2 > 1", prog(1, 2, "GT"), of(1)}, {"1 > 1", prog(1, 1, "GT"), of(0)}, {"1 < 1", prog(1, 1, "LT"), of(0)},
		{"-1 < 1", prog(1, of(-1), "LT"), of(0)}, {"-1 < 1, signed", prog(1, of(-1), "SLT"), of(1)}, {"-1 > 1, signed", prog(1, of(-1), "SGT"), of(0)}, {"1 > -1, signed", prog(of(-1), 1, "SGT"), of(1)}, {"-1 < -1, signed", prog(of(-1), of(-1), "SLT"), of(0)}, {"-1 > -1, signed", prog(of(-1), of(-1), "SGT"), of(0)},
		{"7 = 7", prog(7, 7, "EQ"), of(1)}, {"7 = 2^64 + 7", prog(7, power(64, 7), "EQ"), of(0)}, {"0 is 0", prog(0, "ISZERO"), of(1)}, {"2^255 is 0", prog(power(255, 0), "ISZERO"), of(0)},
		{"12 and 10", prog(12, 10, "AND"), of(8)}, {"12 or 10", prog(12, 10, "OR"), of(14)}, {"12 xor 10", prog(12, 10, "XOR"), of(6)}, {"not 0", prog(0, "NOT"), of(-1)},
		{"the byte 31 of 511", prog(511, 31, "BYTE"), of(255)}, {"1 shifted left by 3", prog(1, 3, "SHL"), of(8)}, {"9 shifted right by 3", prog(9, 3, "SHR"), of(1)}, {"-8 shifted right by 1", prog(of(-8), 1, "SAR"), of(-4)},
		{"nothing of the memory", prog(0, 0, "KECCAK256"), keccak.Sum()}, {"abc in the memory", prog(api.Word{'a', 'b', 'c'}, 40, "MSTORE", 3, 40, "KECCAK256"), keccak.Sum([]byte("abc"))},
		{"MLOAD across two words", prog(of(-1), 32, "MSTORE", 1, "MLOAD"), of(255)}, {"MLOAD of new memory", prog(of(-1), 0, "MSTORE", 31, "MLOAD"), api.Word{255}},
		{"MSTORE8 of a word", prog(0x1234, 31, "MSTORE8", 0, "MLOAD"), of(0x34)}, {"MSTORE beside a byte", prog(of(-1), 0, "MSTORE", 5, 1, "MSTORE", 0, "MLOAD"), api.Word{255}},
		{"MSIZE of no memory", prog("MSIZE"), of(0)}, {"MSIZE of 33 bytes", prog(1, 32, "MSTORE8 MSIZE"), of(64)}, {"MSIZE after MLOAD", prog(1, "MLOAD POP MSIZE"), of(64)}, {"MSIZE after a log", prog(1, 95, "LOG0 MSIZE"), of(96)},
		{"PC at the start", prog("PC"), of(0)}, {"PC behind a PUSH3", prog(1<<16, "PC"), of(4)}, {"PC behind a jump", prog(5, "JUMP", []byte{0xfe, 0xfe}, "JUMPDEST PC"), of(6)},
		{"PUSH0", prog("PUSH0"), of(0)}, {"PUSH2", []byte{0x61, 1, 2}, of(0x102)}, {"PUSH32", prog(power(255, 3)), power(255, 3)},
		{"POP", prog(5, 6, "POP"), of(5)}, {"DUP1", prog(5, 6, "DUP1"), of(6)}, {"DUP2", prog(5, 6, "DUP2"), of(5)}, {"SWAP1", prog(5, 6, "SWAP1"), of(5)}, {"SWAP2", prog(5, 6, 7, "SWAP2"), of(5)},
	} {
		if got := value(t, x.name, x.code); got != x.wants {
			t.Errorf("P1501 %s: %x, not %x", x.name, got, x.wants)
		}
	}
}

// TestPush has each PUSH with all of its bytes.
func TestPush(t *testing.T) {
	var all [32]byte
	for i := range all {
		all[i] = byte(200 + i)
	}
	for n := 1; n <= 32; n++ {
		push := append([]byte{0x5f + byte(n)}, all[:n]...)
		want := api.Word{}
		copy(want[32-n:], all[:n])
		if got := value(t, "PUSH", push); got != want {
			t.Errorf("P1501 PUSH%d: %x, not %x", n, got, want)
		}
	}
}

// TestCutPush has each PUSH at the end of a code, with fewer and fewer of its bytes.
func TestCutPush(t *testing.T) {
	for n := 1; n <= 32; n++ {
		for have := 0; have <= n; have++ {
			// No instruction behind it can ask for the value, but the stack must have room for it.
			pushes := bytes.Repeat([]byte{0x5f}, api.MaxStack)
			cut := append([]byte{0x5f + byte(n)}, make([]byte, have)...)
			o, _ := execute(t, "a cut PUSH on a full stack", slices.Concat(pushes, cut), plenty)
			ends(t, "a cut PUSH on a full stack", o, 0, api.ErrStack, nil)
			o, _ = execute(t, "a cut PUSH", slices.Concat(pushes[1:], cut), plenty)
			ends(t, "a cut PUSH", o, plenty-2*(api.MaxStack-1)-3, api.OK, nil)
		}
	}
}

// TestDeepStack has each DUP and SWAP above more values than it reaches: all of them are returned.
func TestDeepStack(t *testing.T) {
	for _, op := range between(0x80, 0x9f) {
		for _, n := range []int{ops.Pops(op), 20, 1000} {
			var code []byte
			for i := range n {
				code = append(code, prog(1000+i)...)
			}
			code = append(code, op)
			for range n - ops.Pops(op) + ops.Pushes(op) {
				code = append(code, prog("MSIZE MSTORE")...)
			}
			execute(t, ops.Name(op), append(code, prog("MSIZE PUSH0 RETURN")...), plenty)
		}
	}
}

// TestAsks has the instructions that ask for accounts, the context, the message and the code.
func TestAsks(t *testing.T) {
	data := []byte("some data, more than a word has: 1234567890")
	l := []api.Account{
		{Addr: plain, Balance: power(200, 3)}, {Addr: code2, Code: []byte{1, 2, 3}}, {Addr: code3, Nonce: 5},
		{Addr: api.Addr{7}, Slots: []api.Slot{{Key: of(1), Value: of(2)}}}, {Addr: alice, Balance: of(100)},
	}
	dirty := func(a api.Addr) api.Word {
		w := wordOf(a)
		copy(w[:12], bytes.Repeat([]byte{0xdd}, 12))
		return w
	}
	for _, x := range []struct {
		name  string
		code  []byte
		wants api.Word
	}{
		{"ADDRESS", prog("ADDRESS"), wordOf(code1)}, {"CALLER", prog("CALLER"), wordOf(alice)}, {"CALLVALUE", prog("CALLVALUE"), of(60)},
		{"ORIGIN", prog("ORIGIN"), wordOf(someContext.Origin)}, {"COINBASE", prog("COINBASE"), wordOf(someContext.Coinbase)},
		{"TIMESTAMP", prog("TIMESTAMP"), of(1 << 40)}, {"NUMBER", prog("NUMBER"), of(77)}, {"GASLIMIT", prog("GASLIMIT"), of(30_000_000)}, {"CHAINID", prog("CHAINID"), of(338)},
		{"BALANCE", prog(plain, "BALANCE"), power(200, 3)}, {"BALANCE of a longer word", prog(dirty(plain), "BALANCE"), power(200, 3)}, {"BALANCE of nobody", prog(empty, "BALANCE"), of(0)}, {"BALANCE of the caller, who paid", prog("CALLER BALANCE"), of(40)},
		{"SELFBALANCE", prog("SELFBALANCE"), of(60)},
		{"CALLDATASIZE", prog("CALLDATASIZE"), of(len(data))}, {"CODESIZE", prog("CODESIZE"), of(1 + len(returns()))}, {"RETURNDATASIZE", prog("RETURNDATASIZE"), of(0)},
		{"EXTCODESIZE", prog(code2, "EXTCODESIZE"), of(3)}, {"EXTCODESIZE of a longer word", prog(dirty(code2), "EXTCODESIZE"), of(3)}, {"EXTCODESIZE of nobody", prog(empty, "EXTCODESIZE"), of(0)},
		{"EXTCODEHASH", prog(code2, "EXTCODEHASH"), keccak.Sum([]byte{1, 2, 3})}, {"EXTCODEHASH of a longer word", prog(dirty(code2), "EXTCODEHASH"), keccak.Sum([]byte{1, 2, 3})}, {"EXTCODEHASH of nobody", prog(empty, "EXTCODEHASH"), of(0)},
		{"EXTCODEHASH of a balance", prog(plain, "EXTCODEHASH"), keccak.Sum()}, {"EXTCODEHASH of a nonce", prog(code3, "EXTCODEHASH"), keccak.Sum()}, {"EXTCODEHASH of a slot", prog(api.Addr{7}, "EXTCODEHASH"), keccak.Sum()},
		{"CALLDATALOAD 0", prog(0, "CALLDATALOAD"), api.Word(data[:32])}, {"CALLDATALOAD 1", prog(1, "CALLDATALOAD"), api.Word(data[1:33])},
	} {
		all := append(slices.Clone(l), api.Account{Addr: code1, Code: slices.Concat(x.code, returns())})
		o, _ := play(t, x.name, all, api.Message{From: alice, To: code1, Value: of(60), Data: data, Gas: plenty}, someContext)
		if o.Err != api.OK || !bytes.Equal(o.Out, x.wants[:]) {
			t.Errorf("P1501 %s: %s, not %x", x.name, text(o), x.wants)
		}
	}
	for at := range len(data) + 2 {
		all := append(slices.Clone(l), api.Account{Addr: code1, Code: slices.Concat(prog(at, "CALLDATALOAD"), returns())})
		o, _ := play(t, "CALLDATALOAD", all, api.Message{From: alice, To: code1, Data: data, Gas: plenty}, someContext)
		if want := slices.Concat(data, make([]byte, 40))[at : at+32]; !bytes.Equal(o.Out, want) {
			t.Errorf("P1501 CALLDATALOAD %d: %x, not %x", at, o.Out, want)
		}
	}
}

// TestContext has numbers of the context that are negative or large.
func TestContext(t *testing.T) {
	for _, n := range []int{0, -1, -77, 1<<63 - 1, -1 << 63} {
		for name, c := range map[string]api.Context{"NUMBER": {Number: n}, "TIMESTAMP": {Time: n}, "GASLIMIT": {GasLimit: n}} {
			l := []api.Account{{Addr: code1, Code: slices.Concat(prog(name), returns())}}
			o, _ := play(t, name, l, api.Message{To: code1, Gas: 100}, c)
			if want := of(n); !bytes.Equal(o.Out, want[:]) {
				t.Errorf("P1501 %s of %d: %x", name, n, o.Out)
			}
		}
	}
}

// TestCopies has the four instructions that copy, from and to places around every end, over memory that is not 0.
func TestCopies(t *testing.T) {
	data := []byte("these are data")
	fill := prog(of(-1), 0, "MSTORE", of(-1), 32, "MSTORE")
	words := []api.Word{of(0), of(1), of(5), of(13), of(14), of(15), of(32), of(50), of(60), of(64), of(70), of(1<<63 - 1), power(63, 0), power(64, 0), power(64, 3), of(-1), of(-5)}
	for _, name := range []string{"CALLDATACOPY", "CODECOPY", "EXTCODECOPY"} {
		for _, to := range []int{0, 1, 40, 64, 70} {
			for _, from := range words {
				for _, n := range []int{0, 1, 14, 15, 32, 33, 64, 65, 100} {
					args := prog(n, from, to)
					if name == "EXTCODECOPY" {
						args = append(args, prog(code2)...)
					}
					code := slices.Concat(fill, args, prog(name, "MSIZE PUSH0 RETURN"))
					l := []api.Account{{Addr: code1, Code: code}, {Addr: code2, Code: data}}
					o, _ := play(t, name, l, api.Message{To: code1, Data: data, Gas: plenty}, someContext)
					if o.Err != api.OK {
						t.Fatalf("P1501 %s to %d from %x, %d bytes: error %d", name, to, from, n, o.Err)
					}
				}
			}
		}
	}
}

// TestReturnDataCopy has pieces of 5 returned bytes: those that are not all there end with ErrData.
func TestReturnDataCopy(t *testing.T) {
	for _, from := range []api.Word{of(0), of(1), of(4), of(5), of(6), of(1<<63 - 1), power(63, 0), power(64, 0), power(64, 1), of(-1)} {
		for _, n := range []int{0, 1, 4, 5, 6, 1 << 20} {
			code := slices.Concat(prog(0, 0, 0, 0, code2, 10000, "STATICCALL POP", of(-1), 0, "MSTORE", n, from, 2, "RETURNDATACOPY", 12, 0, "RETURN"))
			if n == 1<<20 {
				code = slices.Concat(prog(0, 0, 0, 0, code2, 10000, "STATICCALL POP", n, from, 0, "RETURNDATACOPY"))
			}
			l := []api.Account{{Addr: code1, Code: code}, {Addr: code2, Code: prog(api.Word{'h', 'e', 'l', 'l', 'o'}, 0, "MSTORE", 5, 0, "RETURN")}}
			o, _ := play(t, "RETURNDATACOPY", l, api.Message{To: code1, Gas: plenty}, someContext)
			end := number(from).Int64() + int64(n)
			there := number(from).IsInt64() && end >= 0 && end <= 5
			if n > 0 && there != (o.Err == api.OK) || n > 0 && !there && o.Err != api.ErrData {
				t.Errorf("P1501 RETURNDATACOPY of %d bytes from %x on: error %d", n, from, o.Err)
			}
		}
	}
	// The gas is looked at ahead of the bytes.
	o, _ := execute(t, "RETURNDATACOPY without gas", prog(1, 0, 0, "RETURNDATACOPY"), 9+3+3+2)
	ends(t, "RETURNDATACOPY without gas", o, 0, api.ErrGas, nil)
	o, _ = execute(t, "RETURNDATACOPY of nothing that was returned", prog(1, 0, 0, "RETURNDATACOPY"), 9+3+3+3)
	ends(t, "RETURNDATACOPY of nothing that was returned", o, 0, api.ErrData, nil)
}

// TestStorage has values that were there before, new ones, and those of another account.
func TestStorage(t *testing.T) {
	l := []api.Account{
		{Addr: code1, Slots: []api.Slot{{Key: of(1), Value: of(11)}, {Key: of(2), Value: of(12)}, {Key: power(255, 0), Value: of(-1)}}},
		{Addr: code2, Slots: []api.Slot{{Key: of(1), Value: of(21)}}},
	}
	l[0].Code = slices.Concat(prog(1, "SLOAD", 3, "SSTORE", 0, 1, "SSTORE", of(-5), 2, "SSTORE", power(255, 0), "SLOAD", power(64, 0), "SSTORE", 1, "SLOAD"), returns())
	o, s := play(t, "storage", l, api.Message{From: alice, To: code1, Gas: 100_000}, someContext)
	ends(t, "storage", o, 100_000-9*3-3*800-20000-5000-5000-20000-13, api.OK, make([]byte, 32))
	want := []api.Slot{{Key: of(2), Value: of(-5)}, {Key: of(3), Value: of(11)}, {Key: power(64, 0), Value: of(-1)}, {Key: power(255, 0), Value: of(-1)}}
	if got := s.Accounts(); len(got) != 2 || !slices.Equal(got[0].Slots, want) || !slices.Equal(got[1].Slots, l[1].Slots) {
		t.Errorf("P1501 storage: %s", text(got))
	}
}

// TestLogs has logs with every number of topics, and demands them of the outcome alone that has no error.
func TestLogs(t *testing.T) {
	code := prog(api.Word{'d', 'a', 't', 'a'}, 0, "MSTORE", 4, 0, "LOG0", 11, 2, 1, "LOG1", 12, 11, 0, 0, "LOG2", 13, 12, of(-1), 40, 30, "LOG3", 14, 13, 12, 11, 1, 3, "LOG4")
	o, _ := execute(t, "logs", code, plenty)
	want := []api.Log{
		{Addr: code1, Data: []byte("data")}, {Addr: code1, Topics: []api.Word{of(11)}, Data: []byte("at")}, {Addr: code1, Topics: []api.Word{of(11), of(12)}},
		{Addr: code1, Topics: []api.Word{of(-1), of(12), of(13)}, Data: make([]byte, 40)}, {Addr: code1, Topics: []api.Word{of(11), of(12), of(13), of(14)}, Data: []byte("a")},
	}
	if o.Err != api.OK || !slices.EqualFunc(o.Logs, want, sameLog) {
		t.Errorf("P1501 logs: %s", text(o))
	}
	for _, end := range [][]byte{prog(0, 0, "REVERT"), {0xfe}, prog("POP"), prog(3, "JUMP")} {
		if o, _ := execute(t, "logs ahead of an error", slices.Concat(code, end), plenty); o.Err == api.OK || len(o.Logs) > 0 {
			t.Errorf("P1501 logs ahead of an error: %s", text(o))
		}
	}
}

// TestJumps has jumps to each index of a code, and to words that are none.
func TestJumps(t *testing.T) {
	tail := []byte{0x5b, 0x5b, 0x60, 0x5b, 0x5b, 0x61, 0x5b, 0x5b, 0x5b, 0x5f, 0x5b, 0xfe, 0x5b, 0x80, 0x5b, 0x7f, 0x5b, 0x5b}
	start := len(prog(100, "JUMP"))
	valid := []int{0, 1, 4, 8, 10, 12, 14}
	for to := range len(tail) + 3 {
		for _, jump := range [][]byte{prog(start+to, "JUMP"), prog(1, start+to, "JUMPI")} {
			more := len(jump) - start
			jump[len(jump)-2] += byte(more)
			o, _ := execute(t, "a jump", slices.Concat(jump, tail), plenty)
			if slices.Contains(valid, to) == (o.Err == api.ErrJump) {
				t.Errorf("P1501 a jump to the byte %d: error %d", to, o.Err)
			}
		}
	}
	for _, to := range append(someWords(), of(-(1 << 62)), power(64, 4), power(200, 4), of(1<<63-1)) {
		target := prog(power(255, 0), "JUMP", "JUMPDEST")
		code := slices.Concat(prog(to, "JUMP"), []byte{0x5b}, target)
		o, _ := execute(t, "a jump far away", code, plenty)
		if (o.Err == api.OK) != (to == of(34)) && o.Err != api.ErrJump {
			t.Errorf("P1501 a jump to %x: error %d", to, o.Err)
		}
		for _, condition := range someWords() {
			code := prog(condition, to, "JUMPI STOP")
			o, _ := execute(t, "a jump with a condition", code, plenty)
			if (condition == of(0)) != (o.Err == api.OK) || o.Err != api.OK && o.Err != api.ErrJump {
				t.Errorf("P1501 a jump to %x if %x: error %d", to, condition, o.Err)
			}
		}
	}
	// Both kinds of jumps go on at the JUMPDEST, for which they pay.
	o, _ := execute(t, "a jump", prog(4, "JUMP", []byte{0xfe}, "JUMPDEST", 7, 0, "MSTORE8", 1, 0, "RETURN"), 1000)
	ends(t, "a jump", o, 1000-3-8-1-6-6-6, api.OK, []byte{7})
	o, _ = execute(t, "a jump back, many times", prog(5, "JUMPDEST", 1, "SWAP1 SUB DUP1", 2, "JUMPI"), 1000)
	ends(t, "a jump back, many times", o, 1000-3-5*(1+3+3+3+3+3+10), api.OK, nil)
}

// TestSelfDestruct has what becomes of the balance, and that nothing is left of the account.
func TestSelfDestruct(t *testing.T) {
	l := []api.Account{{Addr: code1, Nonce: 3, Balance: of(1000), Slots: []api.Slot{{Key: of(1), Value: of(1)}}}, {Addr: plain, Balance: of(5)}, {Addr: code2, Balance: of(-500)}}
	for _, x := range []struct {
		name string
		to   api.Word
		addr api.Addr
		has  api.Word
	}{
		{"to another account", wordOf(plain), plain, of(1005)}, {"to nobody", wordOf(empty), empty, of(1000)}, {"to itself", wordOf(code1), code1, of(0)},
		{"to a longer word", power(160, 9), api.Addr{19: 9}, of(1000)}, {"to one that has too much", wordOf(code2), code2, of(-500)},
	} {
		l[0].Code = prog(5, 6, "SSTORE", 1, 0, "LOG0", x.to, "SELFDESTRUCT", []byte{0xfe})
		o, s := play(t, x.name, l, api.Message{From: alice, To: code1, Gas: 100_000}, someContext)
		ends(t, "SELFDESTRUCT "+x.name, o, 100_000-6-20000-6-375-8-3-3-5000, api.OK, nil)
		if s.Exists(code1) || s.Balance(x.addr) != x.has || len(o.Logs) != 1 {
			t.Errorf("P1501 SELFDESTRUCT %s: %s", x.name, text(s.Accounts()))
		}
	}
}

// TestSelfDestructWithin goes on with a code whose account is gone.
func TestSelfDestructWithin(t *testing.T) {
	// code1 lets code2 destroy code1 by DELEGATECALL, and then asks for itself and keeps something.
	l := []api.Account{
		{Addr: code1, Nonce: 3, Balance: of(1000), Slots: []api.Slot{{Key: of(1), Value: of(1)}}},
		{Addr: code2, Code: prog(plain, "SELFDESTRUCT")},
	}
	l[0].Code = slices.Concat(prog(0, 0, 0, 0, code2, 50_000, "DELEGATECALL", 9, "SSTORE", 1, "SLOAD", "ADDRESS EXTCODESIZE ADD SELFBALANCE ADD CODESIZE SUB"), returns())
	o, s := play(t, "an account that is gone", l, api.Message{From: alice, To: code1, Gas: 100_000}, someContext)
	if want := of(len(l[0].Code)); o.Err != api.OK || !bytes.Equal(o.Out, want[:]) {
		t.Errorf("P1501 an account that is gone: %s", text(o))
	}
	want := []api.Account{{Addr: code1, Slots: []api.Slot{{Key: of(9), Value: of(1)}}}, l[1], {Addr: plain, Balance: of(1000)}}
	if !sameAccounts(s.Accounts(), want) {
		t.Errorf("P1501 an account that is gone: %s", text(s.Accounts()))
	}
}

// unchanged demands that a state has these accounts, as state.New takes them.
func unchanged(t *testing.T, name string, s *state.State, l []api.Account) {
	t.Helper()
	if want := state.New(l).Accounts(); !sameAccounts(s.Accounts(), want) {
		t.Errorf("P1501 %s: accounts %s, not %s", name, text(s.Accounts()), text(want))
	}
}
