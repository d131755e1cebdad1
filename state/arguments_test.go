package state_test

import (
	"bytes"
	"fmt"
	"slices"
	"strings"
	"sync"
	"testing"

	"muniments/api"
	"muniments/state"
)

// spacious is a copy of l with something in its spare capacity.
func spacious[E any](l []E, spare E) []E {
	room := append(slices.Clone(l), spare, spare)
	return room[:len(l)]
}

// everything is all that l holds, with the spare capacities.
func everything(l []api.Account) string {
	var text strings.Builder
	for _, a := range l[:cap(l)] {
		fmt.Fprintln(&text, a, a.Code[:cap(a.Code)], a.Slots[:cap(a.Slots)])
	}
	return text.String()
}

// fill makes each element of l the same, with the spare capacity.
func fill[E any](l []E, e E) {
	l = l[:cap(l)]
	for i := range l {
		l[i] = e
	}
}

// spoil changes all that l holds, with the spare capacities.
func spoil(l []api.Account) {
	l = l[:cap(l)]
	for i, a := range l {
		fill(a.Code, 99)
		fill(a.Slots, slot(99, 99))
		l[i] = api.Account{Addr: at(99), Nonce: 99}
	}
}

// TestArguments demands that the list of New stays as it is and is not held.
func TestArguments(t *testing.T) {
	r := noise(11)
	addrs := []api.Addr{{}, at(1), at(2), {255}}
	keys := []api.Word{{}, low(1), low(2), {1}, highest}
	for range 100 {
		l := r.accounts(r.below(8), addrs, keys)
		for i := range l {
			l[i].Code = spacious(l[i].Code, 77)
			l[i].Slots = spacious(l[i].Slots, slot(77, 77))
		}
		l = spacious(l, rich(77))
		ref := newReference(l)
		before := everything(l)
		s := state.New(l)
		if everything(l) != before {
			t.Fatalf("P1004 New changes its argument")
		}
		s.SetCode(at(1), []byte{5})
		s.SetSlot(at(1), low(1), low(5))
		s.Kill(at(2))
		if everything(l) != before {
			t.Fatalf("P1004 a change reaches the argument of New")
		}
		ref.setCode(at(1), []byte{5})
		ref.setSlot(at(1), low(1), low(5))
		ref.kill(at(2))
		spoil(l)
		equals(t, "P1004 the argument of New is held", s, ref, addrs, keys)
	}
}

// TestCodeArgument demands that the code of SetCode stays as it is and is not held, nor by a record.
func TestCodeArgument(t *testing.T) {
	s := state.New(nil)
	b := spacious([]byte{1, 2, 3}, 77)
	s.SetCode(at(1), b)
	mark := s.Mark()
	other := spacious([]byte{4, 5, 6}, 77)
	s.SetCode(at(1), other)
	if !bytes.Equal(b[:5], []byte{1, 2, 3, 77, 77}) || !bytes.Equal(other[:5], []byte{4, 5, 6, 77, 77}) {
		t.Fatalf("P1004 SetCode changes its argument")
	}
	clear(b[:5])
	clear(other[:5])
	has(t, "P1004 the argument of SetCode is held", s, api.Account{Addr: at(1), Code: []byte{4, 5, 6}})
	s.Back(mark)
	has(t, "P1004 the argument of SetCode is held by a record", s, api.Account{Addr: at(1), Code: []byte{1, 2, 3}})
}

// TestResults demands memory of its own for each answer and each list in it.
func TestResults(t *testing.T) {
	given := []api.Account{rich(1), rich(2), rich(3)}
	s := state.New(given)
	l := s.Accounts()
	c := s.Code(at(1))
	spoil(l)
	fill(c, 99)
	has(t, "P1004 answers share memory with the state", s, rich(1), rich(2), rich(3))
	has(t, "P1004 answers share memory with a copy", s.Copy(), rich(1), rich(2), rich(3))
	if !sameAccounts(given, []api.Account{rich(1), rich(2), rich(3)}) {
		t.Errorf("P1004 answers share memory with the argument")
	}

	l = s.Accounts()
	for i := range l {
		l[i].Code = append(l[i].Code, 99)
		l[i].Slots = append(l[i].Slots, slot(99, 99))
		l[i].Code[0], l[i].Slots[0] = 99, slot(99, 99)
		for k, a := range l {
			if k > i && !sameAccount(a, rich(k+1)) {
				t.Errorf("P1004 lists of one answer share memory")
			}
		}
	}
	again, other := s.Code(at(1)), s.Code(at(1))
	again[0] = 99
	if !bytes.Equal(other, []byte{1, 2, 3}) {
		t.Errorf("P1004 two answers share memory")
	}

	mark := s.Mark()
	l = s.Accounts()
	s.Kill(at(1))
	s.SetCode(at(2), nil)
	s.SetSlot(at(3), low(1), low(0))
	if !sameAccounts(l, given) {
		t.Errorf("P1004 a change reaches an answer")
	}
	spoil(l)
	s.Back(mark)
	has(t, "P1004 a record shares memory with an answer", s, given...)
}

// TestSameAnswers asks a state for everything many times: nothing hangs on the order of its maps.
func TestSameAnswers(t *testing.T) {
	var l []api.Account
	for i := range 40 {
		l = append(l, rich(i))
	}
	s := state.New(l)
	root := s.Root()
	for range 50 {
		has(t, "P1001 the same question again", s, l...)
		if s.Root() != root || state.New(l).Root() != root || s.Copy().Root() != root {
			t.Fatalf("P1003 the same question again: another root")
		}
	}
}

// TestTogether asks one state from many goroutines at once, each of which changes a copy of its own.
func TestTogether(t *testing.T) {
	s := state.New(someAccounts())
	s.Mark()
	s.SetCode(at(3), []byte{1})
	l := s.Accounts()
	root := s.Root()
	var all sync.WaitGroup
	for range 8 {
		all.Go(func() {
			for range 20 {
				c := s.Copy()
				c.Mark()
				for _, change := range everyChange() {
					change(c)
				}
				if !sameAccounts(s.Accounts(), l) || s.Root() != root || s.Nonce(at(1)) != 7 || !s.Exists(at(3)) || len(s.Code(at(3))) != 1 {
					t.Error("P1003 a state beside changes of its copies")
				}
			}
		})
	}
	all.Wait()
	has(t, "P1003 a state after changes of its copies", s, l...)
}

func BenchmarkUndo(b *testing.B) {
	s := state.New(someAccounts())
	for b.Loop() {
		mark := s.Mark()
		for i := range 1000 {
			s.SetSlot(at(1), low(byte(i)), low(byte(i>>8+1)))
			s.Move(at(1), at(2), low(1))
		}
		s.Kill(at(1))
		s.Back(mark)
	}
}

func BenchmarkCopy(b *testing.B) {
	s := state.New(nil)
	for i := range 10_000 {
		s.SetSlot(at(i), low(byte(i)), low(1))
	}
	for b.Loop() {
		s.Copy()
	}
}
