package evm_test

import (
	"bytes"
	"slices"
	"sync"
	"testing"

	"muniments/api"
	"muniments/evm"
	"muniments/state"
)

// talker is a code with two logs, a message that returns something, and 40 bytes of output.
func talker() []byte {
	return prog(of(-1), 0, "MSTORE", 3, 2, 5, 0, "LOG2", 0, 0, 32, 0, code2, 10_000, "STATICCALL POP", 4, 3, 2, 1, 40, 0, "LOG4", 40, 0, "RETURN")
}

// TestData demands that the data of a message stay as they are, and what lies behind them, and that nothing of them is kept.
func TestData(t *testing.T) {
	init := prog(9, 3, "SSTORE CODESIZE", 0, 0, "CODECOPY CODESIZE", 0, "RETURN")
	echo := prog("CALLDATASIZE", 0, 0, "CALLDATACOPY", 7, "CALLDATASIZE", 0, "LOG1 CALLDATASIZE", 0, "RETURN")
	for kind := range 5 {
		whole := slices.Concat(init, []byte{77, 77, 77})
		data := whole[:len(init)]
		l := []api.Account{{Addr: alice, Balance: of(9)}, {Addr: code1, Code: echo}}
		s := state.New(l)
		m := api.Message{Kind: kind, From: alice, To: code1, Code: code1, Data: data, Gas: 1_000_000}
		o := evm.Run(s, m, someContext)
		if !bytes.Equal(whole, slices.Concat(init, []byte{77, 77, 77})) {
			t.Fatalf("P1503 a message of the kind %d changes its data", kind)
		}
		clear(whole)
		if kind != api.KStatic && o.Err != api.OK {
			t.Fatalf("P1503 a message of the kind %d: %s", kind, text(o))
		}
		if kind == api.KCall || kind == api.KDelegate {
			if !bytes.Equal(o.Out, init) || !bytes.Equal(o.Logs[0].Data, init) {
				t.Errorf("P1503 a message of the kind %d: the outcome shares its data: %s", kind, text(o))
			}
		}
		if kind >= api.KCreate && !bytes.Equal(s.Code(o.Addr), init) {
			t.Errorf("P1503 a message of the kind %d: the new account shares its data: %s", kind, text(s.Accounts()))
		}
	}
}

// fill makes each element of l the same, with the spare capacity.
func fill[E any](l []E, e E) {
	l = l[:cap(l)]
	for i := range l {
		l[i] = e
	}
}

// TestResults demands memory of its own for each list of an outcome.
func TestResults(t *testing.T) {
	l := []api.Account{{Addr: code1, Code: talker()}, {Addr: code2, Code: prog(of(-2), 0, "MSTORE", 32, 0, "RETURN")}}
	m := api.Message{To: code1, Gas: 100_000}
	s := state.New(l)
	want := evm.Run(state.New(l), m, someContext)
	if len(want.Logs) != 2 || len(want.Out) != 40 {
		t.Fatalf("P1503 the test itself: %s", text(want))
	}
	for part := range 6 {
		o := evm.Run(s, m, someContext)
		copies := evm.Run(s, m, someContext)
		switch part {
		case 0:
			fill(o.Out, 7)
			copies.Out = o.Out
		case 1, 2:
			fill(o.Logs[part-1].Data, 7)
			copies.Logs[part-1].Data = o.Logs[part-1].Data
		case 3, 4:
			fill(o.Logs[part-3].Topics, of(7))
			copies.Logs[part-3].Topics = o.Logs[part-3].Topics
		case 5:
			fill(o.Logs, api.Log{})
			copies.Logs = o.Logs
		}
		if !sameOutcome(o, copies) {
			t.Errorf("P1503 lists of an outcome share memory: %s, not %s", text(o), text(copies))
		}
		if again := evm.Run(s, m, someContext); !sameOutcome(again, want) {
			t.Errorf("P1503 an outcome shares memory with a later one: %s, not %s", text(again), text(want))
		}
		unchanged(t, "an outcome that is changed", s, l)
	}
}

// TestResultsOfFailures demands the same of what REVERT returns, and of a code that becomes that of an account.
func TestResultsOfFailures(t *testing.T) {
	l := []api.Account{{Addr: alice, Balance: of(5)}, {Addr: code1, Code: prog(of(-1), 0, "MSTORE", 20, 0, "REVERT")}}
	s := state.New(l)
	m := api.Message{To: code1, Gas: 1000}
	o := evm.Run(s, m, someContext)
	fill(o.Out, 7)
	if again := evm.Run(s, m, someContext); !bytes.Equal(again.Out, bytes.Repeat([]byte{255}, 20)) {
		t.Errorf("P1503 what REVERT returns: %s", text(again))
	}
	m = api.Message{Kind: api.KCreate, From: alice, Data: deploys(3), Gas: 10_000}
	o = evm.Run(s, m, someContext)
	code := s.Code(o.Addr)
	fill(m.Data, 9)
	if !bytes.Equal(code, []byte{7, 0, 0}) || !bytes.Equal(s.Code(o.Addr), code) {
		t.Errorf("P1503 the code of a new account: %x and %x", code, s.Code(o.Addr))
	}
}

// TestTogether sends messages to many states at once: each outcome hangs on its own alone.
func TestTogether(t *testing.T) {
	n := noise(19)
	var all sync.WaitGroup
	for range 8 {
		l, m := n.accounts(), n.message()
		want := evm.Run(state.New(l), m, someContext)
		for range 2 {
			all.Go(func() {
				for range 30 {
					s := state.New(l)
					if got := evm.Run(s, m, someContext); !sameOutcome(got, want) {
						t.Errorf("P1503 a message beside others: %s, not %s", text(got), text(want))
					}
					if evm.Address(alice, 1) != refAddress(alice, 1) || evm.Address2(alice, of(1), m.Data) != refAddress2(alice, of(1), m.Data) {
						t.Errorf("P1503 addresses beside others")
					}
				}
			})
		}
	}
	all.Wait()
}

// TestAddressData demands that the data of Address2 stay as they are.
func TestAddressData(t *testing.T) {
	whole := []byte{1, 2, 3, 4, 5}
	evm.Address2(alice, of(1), whole[:3])
	if !bytes.Equal(whole, []byte{1, 2, 3, 4, 5}) {
		t.Errorf("P1503 Address2 changes its data: %x", whole)
	}
}

func BenchmarkLoop(b *testing.B) {
	code := prog(100_000, "JUMPDEST", 1, "SWAP1 SUB DUP1", 4, "JUMPI")
	s := state.New([]api.Account{{Addr: code1, Code: code}})
	for b.Loop() {
		if o := evm.Run(s, api.Message{To: code1, Gas: plenty}, someContext); o.Err != api.OK {
			b.Fatal(o.Err)
		}
	}
}

func BenchmarkTransfer(b *testing.B) {
	s := state.New([]api.Account{{Addr: alice, Balance: power(200, 0)}})
	for b.Loop() {
		evm.Run(s, api.Message{From: alice, To: plain, Value: of(1)}, someContext)
	}
}

func BenchmarkStore(b *testing.B) {
	code := prog(1000, "JUMPDEST", 1, "SWAP1 SUB DUP1 DUP1 SSTORE DUP1", 3, "JUMPI")
	s := state.New([]api.Account{{Addr: code1, Code: code}})
	for b.Loop() {
		if o := evm.Run(s, api.Message{To: code1, Gas: plenty}, someContext); o.Err != api.OK {
			b.Fatal(o.Err)
		}
	}
}

func BenchmarkMessages(b *testing.B) {
	code := prog(1000, "JUMPDEST", 0, 0, 0, 0, 1, code2, 100_000, "CALL POP", 1, "SWAP1 SUB DUP1", 3, "JUMPI")
	s := state.New([]api.Account{{Addr: code1, Balance: power(200, 0), Code: code}, {Addr: code2, Code: prog(1, "CALLVALUE SSTORE")}})
	for b.Loop() {
		if o := evm.Run(s, api.Message{To: code1, Gas: plenty}, someContext); o.Err != api.OK {
			b.Fatal(o.Err)
		}
	}
}
