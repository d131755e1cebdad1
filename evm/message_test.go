package evm_test

import (
	"bytes"
	"fmt"
	"slices"
	"testing"

	"muniments/api"
	"muniments/evm"
	"muniments/state"
)

// atOnce demands that m fails before anything is done: with its gas, and without a change.
func atOnce(t *testing.T, name string, l []api.Account, m api.Message, err api.Errno) {
	t.Helper()
	o, s := play(t, name, l, m, someContext)
	if !sameOutcome(o, api.Outcome{Gas: max(m.Gas, 0), Err: err}) {
		t.Errorf("P1501 %s: %s, not the error %d and %d gas", name, text(o), err, m.Gas)
	}
	unchanged(t, name, s, l)
}

// TestAtOnce has each way to fail at once, for each kind.
func TestAtOnce(t *testing.T) {
	l := []api.Account{{Addr: alice, Nonce: 1<<62 - 1, Balance: of(100)}, {Addr: code1, Nonce: 1 << 62, Balance: of(100), Code: prog(1, 1, "SSTORE")}, {Addr: code2, Nonce: 1<<63 - 1}}
	for _, gas := range []int{plenty, 0, -1, -1 << 63, 1<<63 - 1} {
		for _, kind := range []int{-1 << 63, -1, 5, 6, 1<<63 - 1} {
			for _, depth := range []int{0, 65} {
				atOnce(t, "no such kind", l, api.Message{Kind: kind, From: code1, To: code1, Value: of(101), Gas: gas, Depth: depth}, api.ErrArg)
			}
		}
		for kind := range 5 {
			for _, depth := range []int{65, 66, 1<<63 - 1} {
				atOnce(t, "too deep", l, api.Message{Kind: kind, From: code1, To: code1, Code: code1, Value: of(101), Gas: gas, Depth: depth}, api.ErrDepth)
			}
			if kind == api.KStatic || kind == api.KDelegate {
				continue
			}
			for _, value := range []api.Word{of(101), power(64, 0), power(64, 1), of(-1)} {
				atOnce(t, "too great a value", l, api.Message{Kind: kind, From: code1, To: plain, Value: value, Gas: gas, Depth: 64}, api.ErrFunds)
				atOnce(t, "too great a value, to itself", l, api.Message{Kind: kind, From: code1, To: code1, Value: value, Gas: gas}, api.ErrFunds)
			}
		}
		for _, kind := range []int{api.KCreate, api.KCreate2} {
			for _, from := range []api.Addr{code1, code2} {
				atOnce(t, "too great a nonce", l, api.Message{Kind: kind, From: from, Gas: gas}, api.ErrNonce)
			}
		}
	}
	for kind := range 5 {
		for _, depth := range []int{64, 63, 0, -1, -1 << 63} {
			if o, _ := play(t, "deep enough", l, api.Message{Kind: kind, From: alice, To: plain, Code: code1, Value: of(100), Gas: plenty, Depth: depth}, someContext); o.Err != api.OK {
				t.Errorf("P1501 the kind %d with the depth %d: error %d", kind, depth, o.Err)
			}
		}
	}
	_, s := play(t, "the greatest nonce", l, api.Message{Kind: api.KCreate, From: alice}, someContext)
	if s.Nonce(alice) != 1<<62 {
		t.Errorf("P1501 the greatest nonce: %d", s.Nonce(alice))
	}
	// No value is moved by these kinds, so that none must be there; the nonce is asked of those that make an account.
	for _, kind := range []int{api.KStatic, api.KDelegate} {
		o, s := play(t, "a value that is not moved", l, api.Message{Kind: kind, From: code2, To: plain, Code: code3, Value: of(-1), Gas: 10}, someContext)
		ends(t, "a value that is not moved", o, 10, api.OK, nil)
		unchanged(t, "a value that is not moved", s, l)
	}
}

// TestOverflow moves a value to an account that would have too much.
func TestOverflow(t *testing.T) {
	l := []api.Account{{Addr: alice, Balance: of(100)}, {Addr: code1, Balance: of(-5), Code: prog(1, 1, "SSTORE")}}
	for _, gas := range []int{100_000, 0, -3} {
		atOnce(t, "a balance that would be too great", l, api.Message{From: alice, To: code1, Value: of(5), Gas: gas}, api.ErrFunds)
	}
	o, s := play(t, "the greatest balance", l, api.Message{From: alice, To: code1, Value: of(4), Gas: 100_000}, someContext)
	if o.Err != api.OK || s.Balance(code1) != of(-1) {
		t.Errorf("P1501 the greatest balance: %s", text(o))
	}
	o, s = play(t, "a value to itself", l, api.Message{From: code1, To: code1, Value: of(-5), Gas: 100_000}, someContext)
	if o.Err != api.OK || s.Balance(code1) != of(-5) || s.Slot(code1, of(1)) != of(1) {
		t.Errorf("P1501 a value to itself: %s", text(o))
	}
}

// whoAmI is a code that returns ADDRESS, CALLER, CALLVALUE, ORIGIN, the value for the key 1, CALLDATASIZE, CODESIZE and the first word of the data.
func whoAmI() []byte {
	return prog("ADDRESS", 0, "MSTORE CALLER", 32, "MSTORE CALLVALUE", 64, "MSTORE ORIGIN", 96, "MSTORE", 1, "SLOAD", 128, "MSTORE CALLDATASIZE", 160, "MSTORE CODESIZE", 192, "MSTORE", 0, "CALLDATALOAD", 224, "MSTORE", 256, 0, "RETURN")
}

// answers is what whoAmI returns.
func answers(l ...api.Word) []byte {
	var b []byte
	for _, w := range l {
		b = append(b, w[:]...)
	}
	return b
}

// TestKinds has whose code is executed for whose storage, and with which caller and value.
func TestKinds(t *testing.T) {
	l := []api.Account{
		{Addr: alice, Balance: of(100)}, {Addr: code1, Code: whoAmI(), Slots: []api.Slot{{Key: of(1), Value: of(111)}}},
		{Addr: code2, Code: []byte{0xfe}, Slots: []api.Slot{{Key: of(1), Value: of(222)}}},
	}
	size, word := of(len(whoAmI())), api.Word{0: 9, 31: 8}
	for _, x := range []struct {
		name string
		m    api.Message
		out  []byte
	}{
		{"KCall", api.Message{Kind: api.KCall, To: code1, Code: code2, Value: of(60)}, answers(wordOf(code1), wordOf(alice), of(60), wordOf(someContext.Origin), of(111), of(32), size, word)},
		{"KStatic", api.Message{Kind: api.KStatic, To: code1, Code: code2, Value: of(60)}, answers(wordOf(code1), wordOf(alice), of(0), wordOf(someContext.Origin), of(111), of(32), size, word)},
		{"KDelegate", api.Message{Kind: api.KDelegate, To: code2, Code: code1, Value: of(600)}, answers(wordOf(code2), wordOf(alice), of(600), wordOf(someContext.Origin), of(222), of(32), size, word)},
	} {
		x.m.From, x.m.Gas, x.m.Data = alice, plenty, word[:]
		o, s := play(t, x.name, l, x.m, someContext)
		if o.Err != api.OK || !bytes.Equal(o.Out, x.out) || o.Addr != (api.Addr{}) {
			t.Errorf("P1501 %s: %s, not %s", x.name, text(o), text(x.out))
		}
		moved := x.m.Kind == api.KCall
		if moved != (s.Balance(alice) == of(40)) || moved != (s.Balance(code1) == of(60)) {
			t.Errorf("P1501 %s: %s", x.name, text(s.Accounts()))
		}
	}
}

// TestOutcomes has how a message ends, for each kind that executes the code of an account.
func TestOutcomes(t *testing.T) {
	body := prog(7, 1, "SSTORE", 5, 0, "LOG0")
	cost := 3 + 3 + 20000 + 3 + 3 + 375 + 40 + 3
	for _, x := range []struct {
		name string
		tail []byte
		gas  int
		err  api.Errno
		out  []byte
		logs int
	}{
		{"STOP", nil, 40_000 - cost, api.OK, nil, 1},
		{"RETURN", prog(2, 0, "RETURN"), 40_000 - cost - 6, api.OK, []byte{0, 0}, 1},
		{"REVERT", prog(2, 0, "REVERT"), 40_000 - cost - 6, api.ErrRevert, []byte{0, 0}, 0},
		{"an error", []byte{0xfe}, 0, api.ErrOp, nil, 0},
		{"too little gas", prog(8, 2, "SSTORE"), 0, api.ErrGas, nil, 0},
		{"no jump", prog(8, "JUMP"), 0, api.ErrJump, nil, 0},
		{"no value", prog("POP"), 0, api.ErrStack, nil, 0},
		{"no bytes", prog(1, 0, 0, "RETURNDATACOPY"), 0, api.ErrData, nil, 0},
	} {
		for _, kind := range []int{api.KCall, api.KDelegate} {
			l := []api.Account{{Addr: alice, Balance: of(100)}, {Addr: code1, Code: slices.Concat(body, x.tail)}}
			m := api.Message{Kind: kind, From: alice, To: code1, Code: code1, Value: of(60), Gas: 40_000}
			o, s := play(t, x.name, l, m, someContext)
			ends(t, x.name, o, x.gas, x.err, x.out)
			if len(o.Logs) != x.logs {
				t.Errorf("P1501 %s: logs %s", x.name, text(o.Logs))
			}
			if x.err != api.OK {
				unchanged(t, x.name, s, l)
			} else if s.Slot(code1, of(1)) != of(7) {
				t.Errorf("P1501 %s: %s", x.name, text(s.Accounts()))
			}
		}
	}
}

// nested runs a code of code1 that sends one message to code2, by this instruction, and returns: whether it ended without an error, RETURNDATASIZE, and 64 bytes of memory into which up to outN bytes were written from 33 on.
func nested(t *testing.T, op string, value, gas any, outN int, code []byte, data []byte) (api.Outcome, *state.State) {
	t.Helper()
	call := prog(of(-1), 32, "MSTORE", of(-1), 64, "MSTORE", len(data), 0, 128, "CALLDATACOPY", outN, 33, len(data), 128)
	if op == "CALL" {
		call = append(call, prog(value)...)
	}
	call = slices.Concat(call, prog(code2, gas, op, 0, "MSTORE RETURNDATASIZE", 96, "MSTORE", 128, 0, "RETURN"))
	l := []api.Account{
		{Addr: alice, Balance: of(1000)}, {Addr: code1, Balance: of(1000), Code: call, Slots: []api.Slot{{Key: of(1), Value: of(111)}}},
		{Addr: code2, Balance: of(5), Code: code, Slots: []api.Slot{{Key: of(1), Value: of(222)}}},
	}
	return play(t, op, l, api.Message{From: alice, To: code1, Value: of(50), Data: data, Gas: 1_000_000}, someContext)
}

// TestNestedKinds has who a code within a code is.
func TestNestedKinds(t *testing.T) {
	data := bytes.Repeat([]byte{3}, 40)
	size, first := of(len(whoAmI())), api.Word(data[:32])
	for op, want := range map[string][]byte{
		"CALL":         answers(wordOf(code2), wordOf(code1), of(70), wordOf(someContext.Origin), of(222), of(40), size, first),
		"STATICCALL":   answers(wordOf(code2), wordOf(code1), of(0), wordOf(someContext.Origin), of(222), of(40), size, first),
		"DELEGATECALL": answers(wordOf(code1), wordOf(alice), of(50), wordOf(someContext.Origin), of(111), of(40), size, first),
	} {
		// The data stand at 300, with other bytes around them.
		call := prog(of(-1), 280, "MSTORE", of(-1), 320, "MSTORE", len(data), 0, 300, "CALLDATACOPY", 256, 0, len(data), 300)
		if op == "CALL" {
			call = append(call, prog(70)...)
		}
		call = slices.Concat(call, prog(code2, 100_000, op, "POP", 256, 0, "RETURN"))
		l := []api.Account{
			{Addr: alice, Balance: of(1000)}, {Addr: code1, Balance: of(1000), Code: call, Slots: []api.Slot{{Key: of(1), Value: of(111)}}},
			{Addr: code2, Balance: of(5), Code: whoAmI(), Slots: []api.Slot{{Key: of(1), Value: of(222)}}},
		}
		o, s := play(t, op, l, api.Message{From: alice, To: code1, Value: of(50), Data: data, Gas: 1_000_000}, someContext)
		if o.Err != api.OK || !bytes.Equal(o.Out, want) {
			t.Errorf("P1501 %s: %s, not %s", op, text(o), text(want))
		}
		if moved := s.Balance(code2) == of(75) && s.Balance(code1) == of(980); moved != (op == "CALL") {
			t.Errorf("P1501 %s: %s", op, text(s.Accounts()))
		}
	}
}

// TestNestedOutcomes has how a message within a code ends, and what it leaves.
func TestNestedOutcomes(t *testing.T) {
	set := prog(7, 9, "SSTORE", 1, 0, "LOG0")
	hello := prog(api.Word{'h', 'e', 'l', 'l', 'o'}, 0, "MSTORE", 5, 0)
	for _, x := range []struct {
		name string
		code []byte
		ok   bool
		out  string
		logs int
	}{
		{"no code", nil, true, "", 0}, {"STOP", set, true, "", 1}, {"RETURN", slices.Concat(hello, prog("RETURN")), true, "hello", 0},
		{"REVERT", slices.Concat(set, hello, prog("REVERT")), false, "hello", 0}, {"an error", slices.Concat(set, hello, []byte{0xfe}), false, "", 0}, {"RETURN after a change", slices.Concat(set, hello, prog("RETURN")), true, "hello", 1},
	} {
		for _, op := range []string{"CALL", "DELEGATECALL", "STATICCALL"} {
			for _, outN := range []int{0, 1, 4, 5, 6, 31, 63} {
				o, s := nested(t, op, 0, 100_000, outN, x.code, nil)
				ok, out, logs := x.ok, x.out, x.logs
				if op == "STATICCALL" && (logs > 0 || x.name == "REVERT") { // it can't set anything, and has an error there
					ok, out, logs = false, "", 0
				}
				memory := bytes.Repeat([]byte{255}, 64)
				copy(memory[1:], out[:min(len(out), outN)])
				flag := api.Word{}
				if ok {
					flag = of(1)
				}
				name := fmt.Sprint(x.name, " by ", op, " into ", outN, " bytes")
				if want := slices.Concat(answers(flag), memory, answers(of(len(out)))); o.Err != api.OK || !bytes.Equal(o.Out, want) || len(o.Logs) != logs {
					t.Errorf("P1501 %s: %s, not %s", name, text(o), text(want))
				}
				kept := s.Slot(code2, of(9))
				if op == "DELEGATECALL" {
					kept = s.Slot(code1, of(9))
				}
				if (kept == of(7)) != (logs > 0) {
					t.Errorf("P1501 %s: %s", name, text(s.Accounts()))
				}
			}
		}
	}
}

// TestNestedGas has how much gas a message gets, and what becomes of the rest.
func TestNestedGas(t *testing.T) {
	for _, op := range []string{"CALL", "DELEGATECALL", "STATICCALL"} {
		for _, gas := range []any{0, 1, 63, 64, 1000, 900_000, 985_000, 1_000_000, 1 << 62, power(63, 0), power(64, 0), of(-1), power(64, 100)} {
			for _, value := range []any{0, 1, 1000, 2000} {
				for _, code := range [][]byte{nil, slices.Concat(prog("GAS"), returns()), slices.Concat(prog("GAS", 0, "MSTORE", 32, 0, "REVERT")), {0xfe}, prog(1, 1, "SSTORE")} {
					nested(t, op, value, gas, 32, code, nil)
				}
			}
		}
	}
	// 1000 gas of those that are asked for, and 2300 that are not paid, of which GAS has taken 2.
	o, _ := nested(t, "CALL", 1, 1000, 31, slices.Concat(prog("GAS"), returns()), nil)
	if got := o.Out[33:64]; !bytes.Equal(got, append(make([]byte, 30), 3298>>8)) {
		t.Errorf("P1501 the gas of a CALL with a value: %x", o.Out)
	}
	l := []api.Account{{Addr: code1, Code: slices.Concat(prog(32, 0, 0, 0, code2, of(-1), "STATICCALL", 0, "MLOAD"), returns())}, {Addr: code2, Code: slices.Concat(prog("GAS"), returns())}}
	o, _ = play(t, "all the gas", l, api.Message{To: code1, Gas: 100_000}, someContext)
	left := 100_000 - 18 - 700 - 3
	given := left - left/64
	if want := of(given - 2); !bytes.Equal(o.Out, want[:]) || o.Gas != left-15-3-3-2-3-3-2 {
		t.Errorf("P1501 all the gas: %s, not %x", text(o), want)
	}
}

// TestNestedFailures has messages within a code that fail at once: what they were given comes back, with what was not paid.
func TestNestedFailures(t *testing.T) {
	l := []api.Account{{Addr: code1, Balance: of(10)}, {Addr: plain, Balance: of(-5)}, {Addr: code2, Code: slices.Concat(prog(api.Word{'x'}, 0, "MSTORE", 1, 0, "RETURN"))}}
	for _, x := range []struct {
		name  string
		value int
		to    api.Addr
		depth int
		gas   int
	}{{"too great a value", 11, code2, 0, 1400}, {"a balance that would be too great", 10, plain, 0, 1400}, {"too deep", 0, code2, 64, -900}, {"too deep with a value", 10, code2, 64, 1400}} {
		price := 0
		if x.value > 0 {
			price = 9000
		}
		// A message goes well first, so that there are returned bytes, which the failing one takes away.
		first := prog(0, 0, 0, 0, code2, 500, "STATICCALL POP")
		l[0].Code = slices.Concat(first, prog(8, 0, 0, 0, x.value, x.to, 900, "CALL", 0, "MSTORE RETURNDATASIZE", 32, "MSTORE", 64, 0, "RETURN"))
		o, s := play(t, x.name, l, api.Message{From: alice, To: code1, Gas: 100_000, Depth: x.depth}, someContext)
		if o.Err != api.OK || !bytes.Equal(o.Out, make([]byte, 64)) {
			t.Errorf("P1501 %s: %s", x.name, text(o))
		}
		firstCost := 18 + 700 + 2 + 18
		if x.depth == 64 {
			firstCost = 18 + 700 + 2
		}
		rest := 100_000 - firstCost - 21 - 700 - 3 - price - 6 - 2 - 6 - 3 - 6
		if x.value > 0 {
			rest += 2300
		}
		if o.Gas != rest {
			t.Errorf("P1501 %s: %d gas, not %d", x.name, o.Gas, rest)
		}
		unchanged(t, x.name, s, l)
	}
}

// TestDepth counts how many codes can be within each other: the one with the depth 64 is the last.
func TestDepth(t *testing.T) {
	code := prog(0, "SLOAD", 1, "ADD", 0, "SSTORE", 0, 0, 0, 0, 0, "ADDRESS GAS CALL", 0, "MSTORE", 32, 0, "RETURN")
	for depth, want := range map[int]int{0: 65, 60: 5, 63: 2, 64: 1, -3: 68, -100: 165} {
		l := []api.Account{{Addr: code1, Code: code}}
		o, s := play(t, "depth", l, api.Message{To: code1, Gas: 50_000_000, Depth: depth}, someContext)
		if o.Err != api.OK || s.Slot(code1, of(0)) != of(want) {
			t.Errorf("P1501 the depth %d: %s and %x", depth, text(o), s.Slot(code1, of(0)))
		}
	}
	// A message counts up for each kind of instruction.
	for _, op := range []string{"CALL", "DELEGATECALL", "STATICCALL", "CREATE", "CREATE2"} {
		send := map[string][]byte{
			"CALL": prog(0, 0, 0, 0, 0, plain, 0), "DELEGATECALL": prog(0, 0, 0, 0, plain, 0), "STATICCALL": prog(0, 0, 0, 0, plain, 0),
			"CREATE": prog(0, 0, 0), "CREATE2": prog(0, 0, 0, 0),
		}[op]
		for depth := 62; depth <= 64; depth++ {
			l := []api.Account{{Addr: code1, Code: slices.Concat(send, prog(op, "ISZERO ISZERO"), returns())}}
			o, _ := play(t, op, l, api.Message{To: code1, Gas: 100_000, Depth: depth}, someContext)
			if o.Err != api.OK || (o.Out[31] == 1) != (depth < 64) {
				t.Errorf("P1501 %s with the depth %d: %s", op, depth, text(o))
			}
		}
	}
}

// TestStaticWithin demands that a message within a static code is static, whatever sends it.
func TestStaticWithin(t *testing.T) {
	set := prog(1, 1, "SSTORE")
	for _, first := range []string{"CALL", "DELEGATECALL", "STATICCALL"} {
		for _, second := range []string{"CALL", "DELEGATECALL", "STATICCALL"} {
			for _, static := range []bool{false, true} {
				send := func(op string, to api.Addr) []byte {
					code := prog(0, 0, 0, 0)
					if op == "CALL" {
						code = append(code, prog(0)...)
					}
					return append(code, prog(to, "GAS", op)...)
				}
				// code2 returns whether code3 could set something, and code1 returns what code2 does.
				l := []api.Account{{Addr: code2, Code: slices.Concat(send(second, code3), returns())}, {Addr: code3, Code: set}}
				l = append(l, api.Account{Addr: code1, Code: slices.Concat(send(first, code2), prog("POP", 32, 0, 0, "RETURNDATACOPY", 32, 0, "RETURN"))})
				o, _ := play(t, first+" and "+second, l, api.Message{To: code1, Gas: 1_000_000, Static: static}, someContext)
				can := !static && first != "STATICCALL" && second != "STATICCALL"
				if o.Err != api.OK || (o.Out[31] == 1) != can {
					t.Errorf("P1501 %s and %s, static %v: %s", first, second, static, text(o))
				}
			}
		}
	}
	// And that one behind it is not.
	l := []api.Account{{Addr: code1, Code: prog(0, 0, 0, 0, code2, 30_000, "STATICCALL POP", 5, 1, "SSTORE")}, {Addr: code2, Code: set}}
	o, s := play(t, "behind a STATICCALL", l, api.Message{To: code1, Gas: 1_000_000}, someContext)
	if o.Err != api.OK || s.Slot(code1, of(1)) != of(5) || s.Slot(code2, of(1)) != of(0) {
		t.Errorf("P1501 behind a STATICCALL: %s", text(o))
	}
}

// TestLogOrder has logs ahead of messages, within them and behind them; those of messages with an error are lost.
func TestLogOrder(t *testing.T) {
	tell := func(n int) []byte { return prog(n, 0, 0, "LOG1") }
	send := func(to api.Addr) []byte { return prog(0, 0, 0, 0, 0, to, 100_000, "CALL POP") }
	l := []api.Account{
		{Addr: code1, Code: slices.Concat(tell(1), send(code2), tell(2), send(code3), tell(3), send(plain), tell(4))},
		{Addr: code2, Code: slices.Concat(tell(5), send(plain), send(code3), tell(6))},
		{Addr: code3, Code: slices.Concat(tell(7), send(plain), tell(8), prog(0, 0, "REVERT"))},
		{Addr: plain, Code: tell(9)},
	}
	o, _ := play(t, "logs", l, api.Message{To: code1, Gas: 1_000_000}, someContext)
	want := []api.Log{}
	for _, x := range []struct {
		a api.Addr
		n int
	}{{code1, 1}, {code2, 5}, {plain, 9}, {code2, 6}, {code1, 2}, {code1, 3}, {plain, 9}, {code1, 4}} {
		want = append(want, api.Log{Addr: x.a, Topics: []api.Word{of(x.n)}})
	}
	if o.Err != api.OK || !slices.EqualFunc(o.Logs, want, sameLog) {
		t.Errorf("P1501 logs: %s, not %s", text(o.Logs), text(want))
	}
}

// TestUndone demands that a message with an error leaves nothing of what the messages within it changed, also of those without an error, and all that was there before.
func TestUndone(t *testing.T) {
	send := func(to api.Addr, value int) []byte { return prog(0, 0, 0, 0, value, to, 200_000, "CALL POP") }
	for _, end := range [][]byte{{0xfe}, prog(0, 0, "REVERT"), prog("POP"), prog(1, "JUMP")} {
		l := []api.Account{
			{Addr: code1, Balance: of(50), Code: slices.Concat(prog(1, 1, "SSTORE"), send(code2, 10), prog(2, 2, "SSTORE"))},
			{Addr: code2, Code: slices.Concat(prog(3, 3, "SSTORE"), send(code3, 4), prog(0, 1, "SSTORE"), end), Slots: []api.Slot{{Key: of(1), Value: of(9)}}},
			{Addr: code3, Balance: of(1), Code: prog(4, 4, "SSTORE", 0, 0, 0, "CREATE POP", plain, "SELFDESTRUCT")},
		}
		o, s := play(t, "undone", l, api.Message{To: code1, Gas: 1_000_000}, someContext)
		l[0].Slots = []api.Slot{{Key: of(1), Value: of(1)}, {Key: of(2), Value: of(2)}}
		if o.Err != api.OK {
			t.Errorf("P1501 undone: %s", text(o))
		}
		unchanged(t, "undone", s, l)
	}
}

// TestRecords demands that the records that a state has can be gone back to after a message.
func TestRecords(t *testing.T) {
	l := []api.Account{{Addr: alice, Balance: of(100), Nonce: 2}, {Addr: code1, Code: prog(5, 1, "SSTORE", 0, 0, 0, "CREATE")}, {Addr: code2, Code: prog(1, 1, "SSTORE", plain, "SELFDESTRUCT")}, {Addr: code3, Code: prog(1, 1, "SSTORE", 0, 0, "REVERT")}}
	s := state.New(l)
	marks := []int{s.Mark()}
	for _, m := range []api.Message{
		{From: alice, To: code1, Value: of(1)}, {From: alice, To: code2, Value: of(2)}, {From: alice, To: code3, Value: of(3)},
		{Kind: api.KCreate, From: alice, Value: of(4), Data: []byte{0xfe}}, {Kind: api.KCreate2, From: alice, Value: of(5)}, {From: alice, To: empty, Value: of(50)},
	} {
		m.Gas = 1_000_000
		evm.Run(s, m, someContext)
		marks = append(marks, s.Mark())
	}
	if !slices.IsSorted(marks) || len(slices.Compact(slices.Clone(marks))) != len(marks) {
		t.Fatalf("P1501 records: %v", marks)
	}
	s.SetNonce(plain, 9)
	if !s.Back(marks[5]) || s.Balance(alice) != of(100-1-2-5) || s.Nonce(alice) != 4 || s.Exists(empty) || s.Nonce(plain) != 0 {
		t.Errorf("P1501 back to a record behind messages: %s", text(s.Accounts()))
	}
	if !s.Back(marks[2]) || s.Balance(alice) != of(97) || s.Exists(code2) || s.Balance(plain) != of(2) || s.Nonce(alice) != 2 {
		t.Errorf("P1501 back to a record between messages: %s", text(s.Accounts()))
	}
	if !s.Back(marks[0]) {
		t.Errorf("P1501 back to a record ahead of messages")
	}
	unchanged(t, "back to a record ahead of messages", s, l)
}
