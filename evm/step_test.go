package evm_test

import (
	"bytes"
	"slices"
	"strconv"
	"strings"
	"testing"

	"muniments/api"
	"muniments/evm"
	"muniments/mem"
	"muniments/ops"
	"muniments/state"
)

// TestNoInstruction has each byte as a code of its own: those without a name end with ErrOp, also ahead of every other error.
func TestNoInstruction(t *testing.T) {
	for op := range 256 {
		name := "the byte " + strconv.FormatInt(int64(op), 16)
		o, _ := execute(t, name, []byte{byte(op)}, plenty)
		if isNone := ops.Name(byte(op)) == ""; isNone != (o.Err == api.ErrOp) {
			t.Errorf("P1501 %s: error %d", name, o.Err)
		}
		o, _ = execute(t, name+" without gas", []byte{byte(op)}, 0)
		if isNone := ops.Name(byte(op)) == ""; isNone != (o.Err == api.ErrOp) {
			t.Errorf("P1501 %s without gas: error %d", name, o.Err)
		}
		full := slices.Concat(bytes.Repeat([]byte{0x5f}, api.MaxStack), []byte{byte(op)})
		execute(t, name+" with a full stack", full, plenty)
	}
}

// TestStackLimits has each instruction with one value less than it removes, with just those, and with the fullest stack that it may have and one more.
func TestStackLimits(t *testing.T) {
	for op := range 256 {
		name := ops.Name(byte(op))
		if name == "" {
			continue
		}
		pops, most := ops.Pops(byte(op)), api.MaxStack-max(ops.Pushes(byte(op))-ops.Pops(byte(op)), 0)
		for _, n := range []int{pops - 1, pops, most, most + 1} {
			if n < 0 || n > api.MaxStack {
				continue
			}
			wrong := n < pops || n > most
			code := append(bytes.Repeat([]byte{0x5f}, n), byte(op))
			o, _ := execute(t, name+" on "+strconv.Itoa(n)+" values", code, plenty)
			if wrong != (o.Err == api.ErrStack) {
				t.Errorf("P1501 %s on %d values: error %d", name, n, o.Err)
			}
			if wrong {
				// The stack is looked at ahead of the gas.
				o, _ = execute(t, name+" without gas", code, 2*n)
				ends(t, name+" on "+strconv.Itoa(n)+" values without gas", o, 0, api.ErrStack, nil)
			}
		}
	}
}

// TestStatic has each instruction in a static code, whatever makes it static.
func TestStatic(t *testing.T) {
	changes := " SSTORE LOG0 LOG1 LOG2 LOG3 LOG4 CREATE CREATE2 SELFDESTRUCT "
	for op := range 256 {
		name := ops.Name(byte(op))
		if name == "" {
			continue
		}
		code := append(bytes.Repeat([]byte{0x5f}, ops.Pops(byte(op))), byte(op))
		l := []api.Account{{Addr: code1, Code: code}, {Addr: alice, Balance: of(5)}}
		for _, m := range []api.Message{
			{Kind: api.KStatic, From: alice, To: code1}, {Kind: api.KCall, From: alice, To: code1, Static: true},
			{Kind: api.KDelegate, From: alice, To: plain, Code: code1, Static: true}, {Kind: api.KStatic, From: alice, To: code1, Static: true},
			{Kind: api.KCreate, From: alice, Data: code, Static: true}, {Kind: api.KCreate2, From: alice, Data: code, Static: true, Value: of(3)},
		} {
			m.Gas = plenty
			o, _ := play(t, name+" in a static code", l, m, someContext)
			if strings.Contains(changes, " "+name+" ") != (o.Err == api.ErrStatic) {
				t.Errorf("P1501 %s in a static code: error %d", name, o.Err)
			}
			// ErrStatic comes ahead of ErrGas, and behind ErrStack.
			m.Gas = 2 * ops.Pops(byte(op))
			if o, _ = play(t, name+" in a static code without gas", l, m, someContext); strings.Contains(changes, " "+name+" ") && o.Err != api.ErrStatic {
				t.Errorf("P1501 %s in a static code without gas: error %d", name, o.Err)
			}
		}
		if ops.Pops(byte(op)) > 0 {
			l[0].Code = code[1:]
			o, _ := play(t, name+" in a static code without operands", l, api.Message{Kind: api.KStatic, To: code1, Gas: plenty}, someContext)
			ends(t, name+" in a static code without operands", o, 0, api.ErrStack, nil)
		}
	}
}

// TestStaticCall has a CALL with and without a value in a static code.
func TestStaticCall(t *testing.T) {
	for _, x := range []struct {
		value api.Word
		err   api.Errno
	}{{of(0), api.OK}, {of(1), api.ErrStatic}, {power(255, 0), api.ErrStatic}, {power(64, 0), api.ErrStatic}} {
		code := prog("PUSH0 PUSH0 PUSH0 PUSH0", x.value, plain, 1000, "CALL")
		l := []api.Account{{Addr: code1, Balance: of(1000), Code: code}}
		o, _ := play(t, "CALL in a static code", l, api.Message{Kind: api.KStatic, To: code1, Gas: plenty}, someContext)
		if o.Err != x.err {
			t.Errorf("P1501 CALL with the value %x in a static code: error %d", x.value, o.Err)
		}
		// An outcome is the same with hardly any gas: ErrStatic comes ahead of ErrGas.
		o, _ = play(t, "CALL in a static code", l, api.Message{Kind: api.KStatic, To: code1, Gas: 20}, someContext)
		if want := max(x.err, api.ErrGas); o.Err != want {
			t.Errorf("P1501 CALL with the value %x in a static code without gas: error %d", x.value, o.Err)
		}
	}
}

// exact runs the code with just the gas that it costs, which is demanded, and with one less.
func exact(t *testing.T, name string, code []byte, gas int) {
	t.Helper()
	o, _ := execute(t, name, code, gas)
	if o.Err != api.OK || o.Gas != 0 {
		t.Errorf("P1501 %s with %d gas: error %d, %d left", name, gas, o.Err, o.Gas)
	}
	o, _ = execute(t, name, code, gas+1)
	if o.Err != api.OK || o.Gas != 1 {
		t.Errorf("P1501 %s with %d gas: error %d, %d left", name, gas+1, o.Err, o.Gas)
	}
	if gas > 0 {
		o, s := execute(t, name, code, gas-1)
		ends(t, name+" with too little gas", o, 0, api.ErrGas, nil)
		if len(s.Accounts()) != 1 || len(s.Accounts()[0].Slots) != 0 {
			t.Errorf("P1501 %s with too little gas: %s", name, text(s.Accounts()))
		}
	}
}

// TestGas has the gas of each instruction, with operands that are 0: what its row says, and what it costs in addition.
func TestGas(t *testing.T) {
	more := map[string]int{"MLOAD": 3, "MSTORE": 3, "MSTORE8": 3, "SSTORE": 5000}
	for op := range 256 {
		name := ops.Name(byte(op))
		if name == "" || name == "JUMP" || name == "REVERT" || name == "CREATE" || name == "CREATE2" {
			continue
		}
		pops := ops.Pops(byte(op))
		exact(t, name, append(bytes.Repeat([]byte{0x5f}, pops), byte(op)), 2*pops+ops.Gas(byte(op))+more[name])
	}
	exact(t, "JUMP", prog("PUSH0 PUSH0 JUMPI", 6, "JUMP JUMPDEST"), 2+2+10+3+8+1)
}

// TestAdditionalGas has what hangs on operands.
func TestAdditionalGas(t *testing.T) {
	for _, x := range []struct {
		name string
		code []byte
		gas  int
	}{
		{"EXP 255", prog(255, 2, "EXP"), 6 + 10 + 50},
		{"EXP 256", prog(256, 2, "EXP"), 6 + 10 + 100},
		{"EXP of the highest word", prog(of(-1), 2, "EXP"), 6 + 10 + 1600},
		{"EXP of a high base", prog(1, of(-1), "EXP"), 6 + 10 + 50},
		{"KECCAK256 of 1", prog(1, 0, "KECCAK256"), 6 + 30 + 6 + 3},
		{"KECCAK256 of 33", prog(33, 0, "KECCAK256"), 6 + 30 + 12 + 6},
		{"KECCAK256 of 33 from 31 on", prog(33, 31, "KECCAK256"), 6 + 30 + 12 + 6},
		{"KECCAK256 of 33 from 32 on", prog(33, 32, "KECCAK256"), 6 + 30 + 12 + 9},
		{"CALLDATACOPY", prog(33, 500, 31, "CALLDATACOPY"), 9 + 3 + 6 + 6},
		{"CODECOPY", prog(33, 500, 32, "CODECOPY"), 9 + 3 + 6 + 9},
		{"EXTCODECOPY", prog(65, 500, 32, 7, "EXTCODECOPY"), 12 + 700 + 9 + 12},
		{"RETURNDATACOPY", prog(0, 0, 32, "RETURNDATACOPY"), 9 + 3},
		{"MLOAD 1", prog(1, "MLOAD"), 3 + 3 + 6},
		{"MSTORE 32", prog(1, 32, "MSTORE"), 6 + 3 + 6},
		{"MSTORE8 31", prog(1, 31, "MSTORE8"), 6 + 3 + 3},
		{"MSTORE8 32", prog(1, 32, "MSTORE8"), 6 + 3 + 6},
		{"the memory grows twice", prog(0, 0, "MSTORE", 0, 1024, "MSTORE", 0, 0, "MSTORE"), 18 + 9 + mem.Cost(33)},
		{"all of the memory", prog("PUSH0", 1<<20-32, "MSTORE"), 5 + 3 + mem.Cost(1<<15)},
		{"SSTORE 0", prog(0, 1, "SSTORE"), 6 + 5000},
		{"SSTORE 1", prog(1, 1, "SSTORE"), 6 + 20000},
		{"SSTORE 1 twice", prog(1, 1, "SSTORE", 1, 1, "SSTORE"), 12 + 25000},
		{"SSTORE 1 and back", prog(1, 7, "SSTORE", 0, 7, "SSTORE"), 12 + 25000},
		{"SSTORE of other keys", prog(1, 7, "SSTORE", 1, 8, "SSTORE"), 12 + 40000},
		{"LOG0", prog(33, 0, "LOG0"), 6 + 375 + 8*33 + 6},
		{"LOG4", prog(1, 2, 3, 4, 10, 60, "LOG4"), 18 + 1875 + 80 + 9},
		{"RETURN", prog(33, 0, "RETURN"), 6 + 6},
		{"SELFDESTRUCT", prog(plain, "SELFDESTRUCT"), 3 + 5000},
		{"SELFDESTRUCT to itself", prog("ADDRESS SELFDESTRUCT"), 2 + 5000},
		{"CALL of two areas", prog(33, 64, 1, 0, 0, plain, 0, "CALL"), 21 + 700 + 12},
		{"CALL of two areas, the first one the higher", prog(1, 0, 33, 64, 0, plain, 0, "CALL"), 21 + 700 + 12},
		{"DELEGATECALL of two areas", prog(33, 64, 1, 0, plain, 0, "DELEGATECALL"), 18 + 700 + 12},
		{"STATICCALL of two areas", prog(1, 0, 33, 64, plain, 0, "STATICCALL"), 18 + 700 + 12},
		{"CREATE", prog(1, 33, 5, "CREATE"), 9 + 32000 + 6},
		{"CREATE2", prog(7, 33, 31, 5, "CREATE2"), 12 + 32000 + 12 + 6},
		{"CREATE of nothing", prog(0, power(255, 0), 5, "CREATE"), 9 + 32000},
	} {
		exact(t, x.name, x.code, x.gas)
	}
}

// TestCallGas has what a CALL of a value costs: its message has 2300 gas that are not paid, and leaves them here.
func TestCallGas(t *testing.T) {
	for _, x := range []struct {
		name  string
		to    api.Addr
		value int
		gas   int
	}{
		{"no value, nobody", empty, 0, 0}, {"no value, somebody", plain, 0, 0}, {"no value, itself", code1, 0, 0},
		{"a value, nobody", empty, 1, 34000}, {"a value, somebody", plain, 1, 9000}, {"a value, itself", code1, 1, 9000}, {"too great a value", plain, 1001, 9000},
	} {
		code := prog("PUSH0 PUSH0 PUSH0 PUSH0", x.value, x.to, 0, "CALL")
		l := []api.Account{{Addr: code1, Balance: of(1000), Code: code}, {Addr: plain, Balance: of(1)}}
		cost := 8 + 9 + 700 + x.gas
		back := 0
		if x.value > 0 && x.to != code1 { // the code itself does not get far with them
			back = 2300
		}
		m := api.Message{From: alice, To: code1}
		for _, m.Gas = range []int{cost, cost + 1, cost + 70000, plenty} {
			o, _ := play(t, x.name, l, m, someContext)
			ends(t, x.name, o, m.Gas-cost+back, api.OK, nil)
		}
		m.Gas = cost - 1
		o, _ := play(t, x.name, l, m, someContext)
		ends(t, x.name+" with too little gas", o, 0, api.ErrGas, nil)
	}
}

// TestMemoryLimit has areas at the end of the largest memory, and beyond. Too large a memory is ErrGas, and no bytes need none.
func TestMemoryLimit(t *testing.T) {
	area := func(name string, at, n api.Word) []byte {
		op, _ := ops.Op(name)
		switch {
		case strings.HasPrefix(name, "MSTORE"):
			return prog(0, at, name)
		case name == "MLOAD":
			return prog(at, name)
		case name == "EXTCODECOPY":
			return prog(n, 0, at, 0, name)
		case strings.HasSuffix(name, "COPY"):
			return prog(n, 0, at, name)
		case name == "CALL":
			return prog(n, at, n, at, 0, plain, 0, name)
		case strings.HasSuffix(name, "CALL"):
			return prog(n, at, n, at, plain, 0, name)
		case strings.HasPrefix(name, "CREATE"):
			return prog(0, n, at, 0, name)
		}
		return slices.Concat(bytes.Repeat([]byte{0x5f}, ops.Pops(op)-2), prog(n, at, name))
	}
	for _, name := range strings.Fields("KECCAK256 CALLDATACOPY CODECOPY EXTCODECOPY RETURNDATACOPY MLOAD MSTORE MSTORE8 LOG0 LOG1 LOG4 RETURN REVERT CALL DELEGATECALL STATICCALL CREATE CREATE2") {
		for _, at := range []api.Word{of(0), of(1), of(1<<20 - 32), of(1<<20 - 31), of(1<<20 - 1), of(1 << 20), of(1<<20 + 1), of(1 << 62), of(1<<63 - 1), power(63, 0), power(64, 0), power(64, 5), of(-32), of(-1)} {
			for _, n := range []api.Word{of(0), of(1), of(32), of(1<<20 - 1), of(1 << 20), of(1<<20 + 1), of(1<<63 - 1), power(63, 0), power(64, 0), power(64, 1), of(-1)} {
				execute(t, name+" at "+text(at)+" with "+text(n), area(name, at, n), plenty)
			}
		}
	}
	o, _ := execute(t, "MSTORE at the end", prog(0, 1<<20-32, "MSTORE MSIZE", 0, "MSTORE", 32, 0, "RETURN"), plenty)
	if !bytes.Equal(o.Out, slices.Concat(make([]byte, 29), []byte{16, 0, 0})) {
		t.Errorf("P1501 MSIZE of the largest memory: %s", text(o))
	}
	o, _ = execute(t, "MSTORE beyond the end", prog(0, 1<<20-31, "MSTORE"), plenty)
	ends(t, "MSTORE beyond the end", o, 0, api.ErrGas, nil)
	o, _ = execute(t, "MSTORE8 at the end", prog(0, 1<<20-1, "MSTORE8"), plenty)
	ends(t, "MSTORE8 at the end", o, plenty-9-mem.Cost(1<<15), api.OK, nil)
	o, _ = execute(t, "RETURN of no bytes, from far away", prog(0, of(-1), "RETURN"), 6)
	ends(t, "RETURN of no bytes, from far away", o, 0, api.OK, nil)
}

// TestGasOfMessage has the amount of gas of a message: GAS is what is left behind it.
func TestGasOfMessage(t *testing.T) {
	l := []api.Account{{Addr: code1, Code: slices.Concat(prog("GAS"), returns())}}
	for _, gas := range []int{1<<63 - 1, 1 << 62, 1 << 40, 1 << 32, 100, 15} {
		o, _ := play(t, "GAS", l, api.Message{From: alice, To: code1, Gas: gas}, someContext)
		want := of(gas - 2)
		ends(t, "GAS of "+strconv.Itoa(gas), o, gas-15, api.OK, want[:])
	}
	for _, gas := range []int{0, -1, -1 << 63} {
		o, _ := play(t, "GAS", l, api.Message{From: alice, To: code1, Gas: gas}, someContext)
		ends(t, "GAS of "+strconv.Itoa(gas), o, 0, api.ErrGas, nil)
		o, _ = play(t, "no code", l, api.Message{From: alice, To: plain, Gas: gas}, someContext)
		ends(t, "no code with the gas "+strconv.Itoa(gas), o, 0, api.OK, nil)
	}
}

// TestEnd has codes that end at each way: behind the end of a code stands a STOP.
func TestEnd(t *testing.T) {
	for _, x := range []struct {
		name string
		code []byte
		gas  int
		err  api.Errno
		out  []byte
	}{
		{"no code", nil, 1000, api.OK, nil},
		{"the end", prog(7, "POP"), 995, api.OK, nil},
		{"STOP", prog("STOP", []byte{0xfe}), 1000, api.OK, nil},
		{"RETURN", prog(7, 0, "MSTORE8", 3, 0, "RETURN", []byte{0xfe}), 1000 - 6 - 6 - 6, api.OK, []byte{7, 0, 0}},
		{"RETURN of nothing", prog(0, 5, "RETURN", []byte{0xfe}), 994, api.OK, nil},
		{"REVERT", prog(7, 1, "MSTORE8", 3, 0, "REVERT", []byte{0xfe}), 1000 - 6 - 6 - 6, api.ErrRevert, []byte{0, 7, 0}},
		{"REVERT of nothing", prog(0, 5, "REVERT"), 994, api.ErrRevert, nil},
		{"a PUSH without its bytes", []byte{0x7f}, 997, api.OK, nil},
		{"a PUSH without its last bytes", []byte{0x63, 1, 2}, 997, api.OK, nil},
		{"the memory beyond what was written", prog(40, 0, "RETURN"), 1000 - 6 - 6, api.OK, make([]byte, 40)},
	} {
		o, _ := execute(t, x.name, x.code, 1000)
		ends(t, x.name, o, x.gas, x.err, x.out)
	}
}

// TestEndless demands that a code ends that jumps for ever, or sends messages for ever.
func TestEndless(t *testing.T) {
	o, _ := execute(t, "a loop", prog("JUMPDEST PUSH0 JUMP"), 100_000)
	ends(t, "a loop", o, 0, api.ErrGas, nil)
	o, _ = execute(t, "a loop of messages", prog("JUMPDEST PUSH0 PUSH0 PUSH0 PUSH0 PUSH0 ADDRESS GAS CALL POP PUSH0 JUMP"), 50_000)
	ends(t, "a loop of messages", o, 0, api.ErrGas, nil)
}

// TestSame demands that a code is done the same way each time.
func TestSame(t *testing.T) {
	l := []api.Account{{Addr: code1, Balance: of(1000), Code: prog(1, 2, "SSTORE", 5, 0, "MSTORE", 32, 0, "LOG0", 32, 0, "RETURN")}}
	m := api.Message{From: alice, To: code1, Gas: 100_000}
	first := evm.Run(state.New(l), m, someContext)
	for range 20 {
		if again := evm.Run(state.New(l), m, someContext); !sameOutcome(first, again) {
			t.Fatalf("P1501 the same message again: %s, not %s", text(again), text(first))
		}
	}
}
