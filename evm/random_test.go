package evm_test

import (
	"bytes"
	"fmt"
	"math/big"
	"slices"
	"testing"

	"muniments/api"
	"muniments/evm"
	"muniments/ops"
	"muniments/state"
)

// noise makes numbers that look random and are always the same.
type noise uint32

// below is a number from 0 to most - 1.
func (n *noise) below(most int) int {
	*n = *n*1664525 + 1013904223
	high := uint64(*n >> 8)
	*n = *n*1664525 + 1013904223
	return int((high<<24 | uint64(*n>>8)) % uint64(most))
}

func pick[E any](n *noise, l []E) E { return l[n.below(len(l))] }

// word is an operand: a small number, one at which something may turn, an account, or any.
func (n *noise) word() api.Word {
	switch n.below(8) {
	case 0, 1, 2:
		return of(n.below(8))
	case 3:
		return of(n.below(300))
	case 4:
		return wordOf(n.addr())
	case 5:
		return power(uint(n.below(257)), int64(n.below(3)-1))
	case 6:
		return pick(n, someWords())
	}
	var w api.Word
	for i := n.below(32); i < 32; i++ {
		w[i] = byte(n.below(256))
	}
	return w
}

func (n *noise) addr() api.Addr {
	return pick(n, []api.Addr{code1, code2, code3, code1, code2, code3, plain, empty, alice})
}

// area is the operands at and n, pushed in this order from the last on, of an area of memory that is small as a rule.
func (n *noise) area() []any {
	if n.below(30) == 0 {
		return []any{n.word(), n.word()}
	}
	return []any{n.below(70), n.below(100)}
}

// operands is what an instruction may need, the last one first.
func (n *noise) operands(name string) []any {
	area := n.area
	gas := func() any { return pick(n, []any{0, 700, 5000, 30_000, 100_000, n.word(), of(-1)}) }
	amount := func() any { return pick(n, []any{0, 0, 1, 5, 1 << 20, n.word()}) }
	switch name {
	case "KECCAK256", "RETURN", "REVERT", "LOG0":
		return area()
	case "LOG1", "LOG2", "LOG3", "LOG4":
		topics := []any{n.word(), n.word(), n.word(), n.word()}[:name[3]-'0']
		return append(topics, area()...)
	case "MLOAD", "MSTORE", "MSTORE8":
		l := []any{n.word(), n.below(100)}
		return l[2-int(ops.Pops(mustOp(name))):]
	case "CALLDATACOPY", "CODECOPY", "RETURNDATACOPY", "EXTCODECOPY":
		l := []any{n.below(70), n.below(70), n.below(70), n.addr()}
		if n.below(10) == 0 {
			l[1] = n.word()
		}
		if name == "RETURNDATACOPY" {
			l[0], l[1] = 1+n.below(4), n.below(4)
		}
		return l[:ops.Pops(mustOp(name))]
	case "SLOAD", "SSTORE":
		return []any{n.word(), n.below(4)}[2-int(ops.Pops(mustOp(name))):]
	case "BALANCE", "EXTCODESIZE", "EXTCODEHASH", "SELFDESTRUCT":
		return []any{n.addr()}
	case "CALL":
		return slices.Concat(area(), area(), []any{amount(), n.addr(), gas()})
	case "STATICCALL", "DELEGATECALL":
		return slices.Concat(area(), area(), []any{n.addr(), gas()})
	case "CREATE":
		return append(area(), amount())
	case "CREATE2":
		return slices.Concat([]any{n.below(2)}, area(), []any{amount()})
	case "JUMP", "JUMPI":
		return []any{n.below(2), n.below(120)}[2-int(ops.Pops(mustOp(name))):]
	}
	var l []any
	for range ops.Pops(mustOp(name)) {
		l = append(l, n.word())
	}
	return l
}

func mustOp(name string) byte {
	op, ok := ops.Op(name)
	if !ok {
		panic("no instruction: " + name)
	}
	return op
}

// instruction is an instruction with operands ahead of it, or without.
func (n *noise) instruction() []byte {
	kinds := []string{"CALL", "STATICCALL", "DELEGATECALL", "CREATE", "CREATE2", "SSTORE", "SLOAD", "LOG1", "LOG3", "RETURNDATACOPY", "RETURNDATASIZE", "GAS", "MSIZE", "MSTORE", "CALLDATACOPY", "JUMPDEST", "SELFBALANCE", "CALLER", "CALLVALUE", "ADDRESS", "JUMPI", "CODESIZE", "EXTCODEHASH", "SSTORE"}
	name := pick(n, kinds)
	if n.below(3) == 0 {
		if name = ops.Name(byte(n.below(256))); name == "" {
			name = "POP"
		}
	}
	switch n.below(40) {
	case 0:
		return []byte{byte(n.below(256))}
	case 1:
		return prog(name)
	case 2: // a code in memory, for what makes accounts
		return prog(api.Word(append(n.end(), make([]byte, 32)...)[:32]), n.below(10), "MSTORE")
	case 3:
		return []byte{byte(0x80 + n.below(32))}
	}
	if name == "STOP" || name == "RETURN" || name == "REVERT" || name == "SELFDESTRUCT" || name == "JUMP" {
		if n.below(4) > 0 {
			return prog("JUMPDEST")
		}
	}
	if op := mustOp(name); op >= 0x80 && op < 0xa0 {
		return []byte{op}
	}
	return append(prog(n.operands(name)...), mustOp(name))
}

// end is how a code may end.
func (n *noise) end() []byte {
	return pick(n, [][]byte{prog("MSIZE PUSH0 RETURN"), prog("MSIZE PUSH0 RETURN"), prog("STOP"), nil, prog("MSIZE PUSH0 REVERT"), prog(3, 30, "RETURN"), prog("CALLER SELFDESTRUCT"), {0xfe}, prog(5, 1, "SSTORE ADDRESS", 0, "MSTORE", 3, 29, "RETURN")})
}

func (n *noise) code() []byte {
	var code []byte
	for range n.below(14) {
		code = append(code, n.instruction()...)
	}
	return append(code, n.end()...)
}

func (n *noise) accounts() []api.Account {
	l := []api.Account{{Addr: alice, Nonce: n.below(3), Balance: of(1000)}, {Addr: plain, Balance: of(n.below(10) - 3)}}
	for _, a := range []api.Addr{code1, code2, code3} {
		x := api.Account{Addr: a, Nonce: n.below(4), Balance: of(n.below(30)), Code: n.code()}
		if n.below(2) == 0 {
			x.Slots = []api.Slot{{Key: of(1), Value: n.word()}, {Key: of(2), Value: of(1)}}
		}
		l = append(l, x)
	}
	return l
}

func (n *noise) message() api.Message {
	m := api.Message{Kind: n.below(5), From: pick(n, []api.Addr{alice, alice, code1}), To: n.addr(), Code: n.addr(), Value: of(pick(n, []int{0, 1, 7, 1000, 1001})), Salt: n.word(), Gas: pick(n, []int{1000, 30_000, 200_000, 1_000_000})}
	m.Static = n.below(6) == 0
	m.Depth = pick(n, []int{0, 0, 0, 62, 63, 64, 65, -1})
	m.Data = n.code()
	return m
}

// TestRandom plays messages to codes of random instructions, which call each other and make accounts.
func TestRandom(t *testing.T) {
	n := noise(15)
	ended := map[api.Errno]int{}
	for i := range 12_000 {
		o, _ := play(t, fmt.Sprint("random ", i), n.accounts(), n.message(), someContext)
		ended[o.Err]++
	}
	for _, err := range []api.Errno{api.OK, api.ErrStack, api.ErrGas, api.ErrOp, api.ErrJump, api.ErrStatic, api.ErrRevert, api.ErrFunds, api.ErrDepth} {
		if ended[err] < 20 {
			t.Errorf("only %d random messages end with the error %d", ended[err], err)
		}
	}
}

// TestRandomBytes has codes of any bytes.
func TestRandomBytes(t *testing.T) {
	n := noise(16)
	for i := range 3000 {
		code := bytes.Repeat(prog(n.word()), n.below(5))
		for range n.below(60) {
			code = append(code, byte(n.below(256)))
		}
		execute(t, fmt.Sprint("random bytes ", i), code, 50_000)
	}
}

// TestEachInstruction has each instruction many times, with random operands and in a memory that is not empty, behind a message that returned something. All of the memory is returned, with what the instruction pushes.
func TestEachInstruction(t *testing.T) {
	n := noise(17)
	for op := range 256 {
		name := ops.Name(byte(op))
		if name == "" || op >= 0x80 && op < 0xa0 {
			continue
		}
		for i := range 60 {
			in := n.operands(name)
			if i%4 == 0 {
				in = nil
				for range ops.Pops(byte(op)) {
					in = append(in, n.word())
				}
			}
			code := slices.Concat(prog(of(-1), 20, "MSTORE", 5, 0, 0, 0, code2, 5000, "STATICCALL POP"), prog(in...), []byte{byte(op)})
			if ops.Pushes(byte(op)) > 0 && name[:2] != "PU" {
				code = append(code, prog("MSIZE MSTORE")...)
			}
			if name[:2] == "PU" {
				code = slices.Concat(code, make([]byte, op-0x5f), prog("MSIZE MSTORE"))
			}
			code = append(code, prog("GAS MSIZE MSTORE MSIZE PUSH0 RETURN")...)
			l := []api.Account{{Addr: alice, Balance: of(9)}, {Addr: code1, Nonce: 1, Balance: of(5), Code: code}, {Addr: code2, Code: prog(api.Word{1, 2, 3, 4, 5, 6, 7, 8}, 0, "MSTORE", 8, 0, "RETURN")}, {Addr: code3, Code: whoAmI(), Slots: []api.Slot{{Key: of(1), Value: of(2)}}}}
			m := api.Message{From: alice, To: code1, Value: of(3), Data: []byte("0123456789"), Gas: 3_000_000}
			o, _ := play(t, name+" of "+text(in), l, m, someContext)
			// And with gas that is used up just there, or nearly.
			used := m.Gas - o.Gas
			for _, m.Gas = range []int{used, used - 1, used - 12, n.below(used + 1)} {
				play(t, name+" of "+text(in)+" with less gas", l, m, someContext)
			}
		}
	}
}

// TestInOrder sends many messages to one state, one after the other.
func TestInOrder(t *testing.T) {
	n := noise(18)
	for range 60 {
		l := n.accounts()
		s := state.New(l)
		ref := newRefWorld(l, someContext)
		for i := range 30 {
			m := n.message()
			got, want := evm.Run(s, m, someContext), ref.run(m)
			if ref.unclear {
				break
			}
			if !sameOutcome(got, want) || !sameAccounts(s.Accounts(), ref.list()) {
				t.Fatalf("P1501 the message %d: %s and %s\nnot %s and %s", i, text(got), text(s.Accounts()), text(want), text(ref.list()))
			}
		}
	}
}

// TestGreatGas has messages with more gas than can be used.
func TestGreatGas(t *testing.T) {
	code := prog(0, 0, 0, 0, 1, plain, of(-1), "CALL", 0, 0, 0, 0, code2, power(62, 0), "DELEGATECALL GAS ADD ADD", 0, "MSTORE", 32, 0, "RETURN")
	l := []api.Account{{Addr: code1, Balance: of(5), Code: code}, {Addr: code2, Code: prog(0, 0, 0, "CREATE POP", 0, 0, 0, 0, plain, of(1<<60), "STATICCALL")}}
	for _, gas := range []int{1<<63 - 1, 1 << 62, 1<<32 + 5} {
		o, _ := play(t, "great gas", l, api.Message{To: code1, Gas: gas}, someContext)
		left := new(big.Int).SetBytes(o.Out)
		if o.Err != api.OK || left.Cmp(big.NewInt(int64(o.Gas))) < 0 {
			t.Errorf("P1501 %d gas: %s", gas, text(o))
		}
	}
}
