package state_test

import (
	"fmt"
	"math"
	"runtime"
	"slices"
	"testing"

	"muniments/api"
	"muniments/state"
)

// goesBack demands what Back answers.
func goesBack(t *testing.T, name string, s *state.State, mark int, want bool) {
	t.Helper()
	if got := s.Back(mark); got != want {
		t.Fatalf("P1003 %s: Back to %d: %v", name, mark, got)
	}
}

func TestMarkAndBack(t *testing.T) {
	s := state.New(nil)
	mark := s.Mark()
	s.SetNonce(at(1), 5)
	goesBack(t, "SetNonce", s, mark, true)
	isNothing(t, "P1003 SetNonce, Back", s, at(1))
	has(t, "P1003 SetNonce, Back", s)
	goesBack(t, "a second time", s, mark, false)
	s.SetNonce(at(1), 6)
	goesBack(t, "a third time", s, mark, false)
	has(t, "P1003 after Back that does nothing", s, api.Account{Addr: at(1), Nonce: 6})
}

// everyChange has a change of each kind, at an account with all, with one value, and without.
func everyChange() map[string]func(s *state.State) {
	l := map[string]func(s *state.State){
		"nothing":                 func(s *state.State) {},
		"Move":                    func(s *state.State) { s.Move(at(1), at(2), low(4)) },
		"Move of all":             func(s *state.State) { s.Move(at(1), at(3), low(9)) },
		"Move of what came":       func(s *state.State) { s.Move(at(1), at(3), low(9)); s.Move(at(3), at(1), low(9)) },
		"Move that can't be":      func(s *state.State) { s.Move(at(1), at(2), low(10)) },
		"Move to itself":          func(s *state.State) { s.Move(at(1), at(1), low(9)) },
		"SetNonce and another":    func(s *state.State) { s.SetNonce(at(1), 4); s.SetNonce(at(2), 4); s.SetNonce(at(1), 3) },
		"SetSlot at some keys":    func(s *state.State) { s.SetSlot(at(1), low(1), low(7)); s.SetSlot(at(1), low(2), low(8)) },
		"SetSlot of a slot twice": func(s *state.State) { s.SetSlot(at(1), low(1), low(7)); s.SetSlot(at(1), low(1), low(8)) },
		"SetSlot to 0 and back":   func(s *state.State) { s.SetSlot(at(1), low(1), low(0)); s.SetSlot(at(1), low(1), low(5)) },
		"SetSlot in two accounts": func(s *state.State) { s.SetSlot(at(1), low(1), low(7)); s.SetSlot(at(3), low(1), low(8)) },
		"all to 0 one by one": func(s *state.State) {
			s.SetNonce(at(1), 0)
			s.SetSlot(at(1), low(1), low(0))
			s.SetCode(at(1), nil)
			s.SetSlot(at(1), low(2), low(0))
			s.SetBalance(at(1), low(0))
		},
		"Kill and all again": func(s *state.State) {
			s.Kill(at(1))
			s.SetBalance(at(1), low(9))
			s.SetCode(at(1), []byte{1, 2, 3})
			s.SetSlot(at(1), low(2), low(6))
			s.SetSlot(at(1), low(1), low(5))
			s.SetNonce(at(1), 7)
		},
		"Kill twice": func(s *state.State) {
			s.Kill(at(1))
			s.SetSlot(at(1), low(3), low(8))
			s.Kill(at(1))
			s.SetSlot(at(1), low(4), low(8))
		},
		"SetSlot ahead of Kill": func(s *state.State) {
			s.SetSlot(at(1), low(1), low(8))
			s.SetSlot(at(1), low(3), low(8))
			s.Kill(at(1))
			s.SetSlot(at(1), low(2), low(8))
			s.SetSlot(at(1), low(3), low(9))
		},
		"SetNonce ahead of Kill": func(s *state.State) { s.SetNonce(at(1), 8); s.Kill(at(1)); s.SetNonce(at(1), 9) },
	}
	for n := range 4 {
		for name, f := range map[string]func(s *state.State){
			"SetNonce":          func(s *state.State) { s.SetNonce(at(n), 8) },
			"SetNonce with -5":  func(s *state.State) { s.SetNonce(at(n), -5) },
			"SetBalance":        func(s *state.State) { s.SetBalance(at(n), low(8)) },
			"SetBalance with 0": func(s *state.State) { s.SetBalance(at(n), low(0)) },
			"SetCode":           func(s *state.State) { s.SetCode(at(n), []byte{1, 2, 3, 4}) },
			"SetCode with none": func(s *state.State) { s.SetCode(at(n), nil) },
			"SetSlot":           func(s *state.State) { s.SetSlot(at(n), low(1), low(8)) },
			"SetSlot with 0":    func(s *state.State) { s.SetSlot(at(n), low(1), low(0)) },
			"SetSlot elsewhere": func(s *state.State) { s.SetSlot(at(n), low(3), low(8)) },
			"Kill":              func(s *state.State) { s.Kill(at(n)) },
		} {
			l[fmt.Sprintf("%s of %d", name, n)] = f
		}
	}
	return l
}

// someAccounts has the accounts at 1 with all, at 2 and at 0 with one value, and none at 3.
func someAccounts() []api.Account {
	return []api.Account{{Addr: at(0), Slots: []api.Slot{slot(1, 3)}}, rich(1), {Addr: at(2), Balance: low(1)}}
}

// TestBackFromEach undoes each change, each behind each other one, and with a record between them.
func TestBackFromEach(t *testing.T) {
	changes := everyChange()
	for one, first := range changes {
		s := state.New(someAccounts())
		root := s.Root()
		mark := s.Mark()
		first(s)
		goesBack(t, one, s, mark, true)
		has(t, "P1003 Back from "+one, s, someAccounts()...)
		if s.Root() != root {
			t.Errorf("P1003 Back from %s: another root", one)
		}
		for other, second := range changes {
			name := one + ", then " + other
			s.Mark()
			first(s)
			between := s.Accounts()
			inner := s.Mark()
			second(s)
			goesBack(t, name, s, inner, true)
			has(t, "P1003 Back from "+name, s, between...)
			second(s)
			goesBack(t, name, s, inner, false)
			goesBack(t, name, s, inner-1, true)
			has(t, "P1003 Back from "+name+", twice", s, someAccounts()...)

			outer := s.Mark()
			first(s)
			s.Mark()
			second(s)
			first(s)
			goesBack(t, name, s, outer, true)
			has(t, "P1003 Back from "+name+", at once", s, someAccounts()...)
		}
	}
}

// TestNumbers demands greater and greater numbers, also after Back, and that no other number is one of a record.
func TestNumbers(t *testing.T) {
	s := &state.State{}
	for _, n := range []int{0, 1, -1, 2, math.MaxInt, math.MinInt} {
		goesBack(t, "without records", s, n, false)
	}
	var marks, gone []int
	last := math.MinInt
	mark := func() {
		t.Helper()
		n := s.Mark()
		if n <= last {
			t.Fatalf("P1003 Mark: %d after %d", n, last)
		}
		last = n
		marks = append(marks, n)
	}
	for round := range 20 {
		for range 10 {
			mark()
			s.SetNonce(at(1), last)
		}
		cut := len(marks) - 1 - round%10
		for _, n := range append(gone, math.MinInt, -1, marks[0]-1, last+1, math.MaxInt) {
			goesBack(t, "no number of a record", s, n, false)
		}
		goesBack(t, "a record", s, marks[cut], true)
		gone = append(gone, marks[cut:]...)
		marks = marks[:cut]
		for _, n := range gone {
			goesBack(t, "a record that is removed", s, n, false)
		}
	}
	for _, n := range slices.Backward(marks) {
		goesBack(t, "the records that are left", s, n, true)
	}
	has(t, "P1003 after Back from all", s)
	mark()
}

// TestRecordsWithoutChanges has records of the same state: each is one of its own.
func TestRecordsWithoutChanges(t *testing.T) {
	s := state.New([]api.Account{rich(1)})
	first, second, third := s.Mark(), s.Mark(), s.Mark()
	s.Kill(at(1))
	fourth := s.Mark()
	goesBack(t, "the last one", s, fourth, true)
	has(t, "P1003 Back to a record without changes", s)
	goesBack(t, "the second one", s, second, true)
	has(t, "P1003 Back to the second one", s, rich(1))
	goesBack(t, "the third one", s, third, false)
	s.SetNonce(at(1), 3)
	goesBack(t, "the first one", s, first, true)
	has(t, "P1003 Back to the first one", s, rich(1))
}

// TestEmptiedBetween has an account that comes, goes and comes again between records.
func TestEmptiedBetween(t *testing.T) {
	s := state.New(nil)
	var marks []int
	var lists [][]api.Account
	for _, change := range []func(){
		func() { s.SetNonce(at(1), 1) },
		func() { s.SetNonce(at(1), 0) },
		func() { s.SetSlot(at(1), low(1), low(1)) },
		func() { s.SetSlot(at(1), low(2), low(1)) },
		func() { s.Kill(at(1)) },
		func() { s.SetSlot(at(1), low(2), low(2)) },
		func() { s.SetSlot(at(1), low(2), low(0)) },
		func() { s.SetCode(at(1), []byte{1}) },
		func() { s.Kill(at(1)) },
		func() { s.SetBalance(at(1), low(1)) },
		func() { s.SetSlot(at(1), low(2), low(3)) },
	} {
		marks = append(marks, s.Mark())
		lists = append(lists, s.Accounts())
		change()
	}
	for i, mark := range slices.Backward(marks) {
		goesBack(t, "step by step", s, mark, true)
		has(t, fmt.Sprintf("P1003 Back to step %d", i), s, lists[i]...)
	}
}

// TestDeep has many records, each of a state of its own, and goes back over more and more of them at once.
func TestDeep(t *testing.T) {
	const steps = 3000
	s := state.New([]api.Account{rich(1)})
	var marks []int
	for i := range steps {
		marks = append(marks, s.Mark())
		s.SetNonce(at(2), i+1)
		s.SetSlot(at(1), low(byte(i)), low(byte(i>>8)))
		if i%100 == 50 {
			s.Kill(at(1))
		}
	}
	for i, step := steps-1, 1; i > 0; i, step = i-step, step+1 {
		goesBack(t, "many records", s, marks[i], true)
		if got := s.Nonce(at(2)); got != i {
			t.Fatalf("P1003 Back to step %d: that of step %d", i, got)
		}
	}
	goesBack(t, "the first record", s, marks[0], true)
	has(t, "P1003 Back to the first record", s, rich(1))
}

func TestCopy(t *testing.T) {
	s := state.New([]api.Account{rich(1), rich(2)})
	before := s.Mark()
	s.SetNonce(at(3), 1)
	mark := s.Mark()
	l := s.Accounts()
	c := s.Copy()
	has(t, "P1003 Copy", c, l...)
	for _, n := range []int{before, mark, 0, 1, mark + 1} {
		goesBack(t, "a number of the original", c, n, false)
	}
	own := c.Mark()
	for _, n := range []int{before, mark} {
		goesBack(t, "a number of the original, beside one of its own", c, n, false)
	}
	for name, change := range everyChange() {
		change(c)
		has(t, "P1003 the original after "+name+" of the copy", s, l...)
	}
	goesBack(t, "its own number", c, own, true)
	has(t, "P1003 Back of the copy", c, l...)
	for name, change := range everyChange() {
		change(s)
		has(t, "P1003 the copy after "+name+" of the original", c, l...)
	}
	d := s.Copy()
	after := s.Accounts()
	goesBack(t, "the number of the original", s, mark, true)
	has(t, "P1003 Back of the original", s, l...)
	has(t, "P1003 the copy after Back of the original", d, after...)
	goesBack(t, "the first number of the original", s, before, true)
	has(t, "P1003 Back of the original to the first", s, rich(1), rich(2))
	has(t, "P1003 the first copy at the end", c, l...)
}

// TestCopyOfKilled has a copy between Kill and Back: what comes back is not shared.
func TestCopyOfKilled(t *testing.T) {
	s := state.New([]api.Account{rich(1)})
	full := s.Copy()
	mark := s.Mark()
	s.Kill(at(1))
	none := s.Copy()
	goesBack(t, "Kill", s, mark, true)
	again := s.Copy()
	s.SetSlot(at(1), low(1), low(8))
	has(t, "P1003 the copy ahead of Kill", full, rich(1))
	has(t, "P1003 the copy after Kill", none)
	has(t, "P1003 the copy after Back", again, rich(1))
}

// TestNoise holds states, and copies of them, against the reference.
func TestNoise(t *testing.T) {
	addrs := []api.Addr{{}, at(1), at(2), {255}}
	keys := []api.Word{{}, low(1), low(2), {1}, highest}
	for seed := range 300 {
		r := noise(seed)
		l := r.accounts(r.below(6), addrs, keys)
		s, ref := state.New(l), newReference(l)
		other, otherRef := s.Copy(), newReference(ref.list())
		var marks []int
		for i := range 200 {
			name := fmt.Sprintf("seed %d, step %d", seed, i)
			a, k := pick(&r, addrs), pick(&r, keys)
			switch r.below(16) {
			case 0, 1:
				n := r.below(4) - 1
				s.SetNonce(a, n)
				ref.setNonce(a, n)
			case 2, 3:
				w := r.word()
				s.SetBalance(a, w)
				ref.setBalance(a, w)
			case 4:
				b := r.bytes(r.below(3))
				s.SetCode(a, b)
				ref.setCode(a, b)
			case 5, 6, 7, 8:
				w := r.word()
				s.SetSlot(a, k, w)
				ref.setSlot(a, k, w)
			case 9, 10:
				to, w := pick(&r, addrs), r.word()
				if got, want := s.Move(a, to, w), ref.move(a, to, w); got != want {
					t.Fatalf("P1002 %s: Move: %v", name, got)
				}
			case 11:
				s.Kill(a)
				ref.kill(a)
			case 12, 13:
				marks = append(marks, s.Mark())
				ref.mark(marks[len(marks)-1])
			case 14:
				if len(marks) > 0 {
					n := pick(&r, marks)
					if got, want := s.Back(n), ref.back(n); got != want {
						t.Fatalf("P1003 %s: Back: %v", name, got)
					}
				}
			case 15:
				if r.below(10) == 0 {
					equals(t, "P1003 the other one at "+name, other, otherRef, addrs, keys)
					other, otherRef = s, ref
					s, ref = s.Copy(), newReference(ref.list())
				}
			}
			equals(t, "P1002 P1003 "+name, s, ref, addrs, keys)
		}
		equals(t, "P1003 the other one", other, otherRef, addrs, keys)
		for _, n := range slices.Backward(marks) {
			if got, want := other.Back(n), otherRef.back(n); got != want {
				t.Fatalf("P1003 seed %d: Back of the other one: %v", seed, got)
			}
			equals(t, "P1003 the other one after Back", other, otherRef, addrs, keys)
		}
	}
}

// inUse is how many bytes are held.
func inUse() int {
	var m runtime.MemStats
	runtime.GC()
	runtime.ReadMemStats(&m)
	return int(m.HeapAlloc)
}

// TestHolding demands that a state holds no more than what differs between its records, however often the same was changed, or nothing was.
func TestHolding(t *testing.T) {
	s := state.New([]api.Account{rich(1)})
	work := func() {
		for i := range 100_000 {
			some := api.Word{29: byte(i >> 16), 30: byte(i >> 8), 31: byte(i)}
			s.SetNonce(at(1), i)
			s.SetBalance(at(1), some)
			s.SetCode(at(1), some[:])
			s.SetSlot(at(1), low(byte(i)), some)
			s.SetNonce(at(2), i&1)
			s.SetSlot(at(3), some, low(0))
			s.Kill(api.Addr(some[12:]))
			if i%1000 == 0 {
				s.Kill(at(1))
			}
		}
	}
	before := inUse()
	work()
	mark := s.Mark()
	work()
	s.Mark()
	work()
	for range 100_000 {
		n := s.Mark()
		s.Kill(at(1))
		s.SetNonce(at(1), 1)
		s.Back(n)
	}
	if more := inUse() - before; more > 1<<20 {
		t.Errorf("P1003 a state with two records holds %d bytes more", more)
	}
	goesBack(t, "after all that", s, mark, true)
}
