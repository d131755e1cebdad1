package mem_test

import (
	"math"
	"slices"
	"sync"
	"testing"

	"muniments/api"
	"muniments/mem"
)

func TestEmptyStack(t *testing.T) {
	var s mem.Stack
	if got := s.Len(); got != 0 {
		t.Errorf("P1302 Len of a zero Stack: %d", got)
	}
	for _, n := range []int{math.MinInt, -1, 1, 2, 1024, math.MaxInt} {
		if l, ok := s.Pop(n); ok || len(l) != 0 {
			t.Errorf("P1302 Pop(%d) of a zero Stack: %x, %v", n, l, ok)
		}
	}
	for _, n := range []int{math.MinInt, -1, 0, 1, 2, 1024, math.MaxInt} {
		if s.Dup(n) {
			t.Errorf("P1302 Dup(%d) of a zero Stack returns true", n)
		}
		if s.Swap(n) {
			t.Errorf("P1302 Swap(%d) of a zero Stack returns true", n)
		}
	}
	if l, ok := s.Pop(0); !ok || len(l) != 0 {
		t.Errorf("P1302 Pop(0) of a zero Stack: %x, %v", l, ok)
	}
	hold(t, "P1302 after calls of an empty stack", &s, nil)
}

func TestPushAndPop(t *testing.T) {
	var s mem.Stack
	for i := range 4 {
		if !s.Push(low(i)) || s.Len() != i+1 {
			t.Fatalf("P1302 Push of the word %d", i)
		}
	}
	if l, ok := s.Pop(3); !ok || !slices.Equal(l, []api.Word{low(3), low(2), low(1)}) {
		t.Errorf("P1302 Pop(3): %x, %v", l, ok)
	}
	if l, ok := s.Pop(2); ok || len(l) != 0 || s.Len() != 1 {
		t.Errorf("P1302 Pop(2) of one word: %x, %v, Len %d", l, ok, s.Len())
	}
	if l, ok := s.Pop(-1); ok || len(l) != 0 || s.Len() != 1 {
		t.Errorf("P1302 Pop(-1): %x, %v, Len %d", l, ok, s.Len())
	}
	if l, ok := s.Pop(1); !ok || !slices.Equal(l, []api.Word{low(0)}) || s.Len() != 0 {
		t.Errorf("P1302 Pop(1): %x, %v, Len %d", l, ok, s.Len())
	}
}

func TestDupAndSwap(t *testing.T) {
	var s mem.Stack
	for i := range 4 {
		s.Push(low(i))
	}
	if !s.Dup(1) || !s.Dup(5) || s.Len() != 6 {
		t.Errorf("P1302 Dup(1) and Dup(5), Len %d", s.Len())
	}
	hold(t, "P1302 after Dup(1) and Dup(5)", &s, refStack{low(0), low(3), low(3), low(2), low(1), low(0)})
	if s.Dup(7) || s.Dup(0) || s.Swap(6) || s.Swap(0) {
		t.Errorf("P1302 Dup or Swap of what is not there returns true")
	}
	if !s.Swap(5) || !s.Swap(1) {
		t.Errorf("P1302 Swap returns false")
	}
	hold(t, "P1302 after Swap(5) and Swap(1)", &s, refStack{low(3), low(0), low(3), low(2), low(1), low(0)})
	if !s.Swap(4) {
		t.Errorf("P1302 Swap(4) returns false")
	}
	hold(t, "P1302 after Swap(4)", &s, refStack{low(1), low(0), low(3), low(2), low(3), low(0)})
}

// numbers are the numbers of words to ask for of a stack of so many words: every one that is there, and others.
func numbers(count int) []int {
	l := []int{math.MinInt, math.MinInt + 1, math.MinInt + count, -1 << 40, -1 << 32, 1<<32 + 1, 1 << 40, math.MaxInt - count, math.MaxInt - 1, math.MaxInt}
	for n := -3; n <= count+3; n++ {
		l = append(l, n)
	}
	return append(l, 1023, 1024, 1025)
}

// TestEveryNumber has each call with each number on stacks of every size around the edges.
func TestEveryNumber(t *testing.T) {
	for _, count := range []int{0, 1, 2, 3, 15, 16, 17, 18, 40, 1022, 1023, 1024} {
		s, full := filled(t, count)
		for _, n := range numbers(count) {
			r := slices.Clone(full)
			if got, want := s.Dup(n), r.dup(n); got != want || s.Len() != len(r) {
				t.Fatalf("P1302 Dup(%d) of %d words: %v, Len %d", n, count, got, s.Len())
			}
			if len(r) > count {
				if l, ok := s.Pop(1); !ok || l[0] != r[0] {
					t.Fatalf("P1302 Dup(%d) of %d words adds %x", n, count, l)
				}
			}
			r = slices.Clone(full)
			if got, want := s.Swap(n), r.swap(n); got != want {
				t.Fatalf("P1302 Swap(%d) of %d words: %v", n, count, got)
			}
			if count < 50 || n%100 == 0 {
				hold(t, "P1302 after Swap", s, r)
			}
			if got, want := s.Swap(n), r.swap(n); got != want {
				t.Fatalf("P1302 Swap(%d) again of %d words: %v", n, count, got)
			}
			got, ok := s.Pop(n)
			if want, wantOK := r.pop(n); ok != wantOK || !slices.Equal(got, want) || s.Len() != len(r) {
				t.Fatalf("P1302 Pop(%d) of %d words: %d words, %v, Len %d", n, count, len(got), ok, s.Len())
			}
			for _, w := range slices.Backward(got) {
				s.Push(w)
			}
		}
		hold(t, "P1302 after calls with every number", s, full)
	}
}

func TestFullStack(t *testing.T) {
	s, r := filled(t, api.MaxStack)
	if s.Push(highest) || s.Dup(1) || s.Dup(1024) || s.Len() != 1024 {
		t.Errorf("P1302 a full stack takes one more word, Len %d", s.Len())
	}
	if s.Swap(1024) || !s.Swap(1023) || !r.swap(1023) {
		t.Errorf("P1302 Swap of a full stack")
	}
	hold(t, "P1302 after calls of a full stack", s, r)
	s.Pop(1)
	r.pop(1)
	if !s.Dup(1023) || !r.dup(1023) || s.Push(highest) {
		t.Errorf("P1302 the last word of a stack")
	}
	hold(t, "P1302 after the last word", s, r)
	if l, ok := s.Pop(1025); ok || len(l) != 0 || s.Len() != 1024 {
		t.Errorf("P1302 Pop of more than all words: %d words, %v", len(l), ok)
	}
}

// TestStackSequences has many calls behind each other, on stacks that are mostly small or mostly full.
func TestStackSequences(t *testing.T) {
	r := noise(31)
	for round := range 60 {
		s, ref := filled(t, pick(&r, 0, 3, 1000, 1020, 1024))
		for range 300 {
			n := r.below(20) - 2
			switch r.below(6) {
			case 0, 1:
				w := api.Word(r.bytes(32))
				if got, want := s.Push(w), ref.push(w); got != want {
					t.Fatalf("P1302 Push: %v", got)
				}
			case 2:
				got, ok := s.Pop(n / 2)
				if want, wantOK := ref.pop(n / 2); ok != wantOK || !slices.Equal(got, want) {
					t.Fatalf("P1302 Pop(%d): %x, %v, not %x", n/2, got, ok, want)
				}
			case 3, 4:
				if got, want := s.Dup(n), ref.dup(n); got != want {
					t.Fatalf("P1302 Dup(%d): %v", n, got)
				}
			default:
				if got, want := s.Swap(n), ref.swap(n); got != want {
					t.Fatalf("P1302 Swap(%d): %v", n, got)
				}
			}
			if s.Len() != len(ref) {
				t.Fatalf("P1302 Len %d, not %d", s.Len(), len(ref))
			}
		}
		if round%2 == 0 {
			hold(t, "P1302 after many calls", s, ref)
		}
		if got, ok := s.Pop(len(ref)); !ok || !slices.Equal(got, ref) {
			t.Fatalf("P1302 after many calls: all words are %x, %v", got, ok)
		}
	}
}

// TestPopResult demands new memory for each answer.
func TestPopResult(t *testing.T) {
	for _, n := range []int{0, 1, 2, 5, 9, 10} {
		s, r := filled(t, 10)
		l, _ := s.Pop(n)
		want, _ := r.pop(n)
		for _, w := range want {
			s.Push(w)
			r.push(w)
		}
		s.Push(highest)
		r.push(highest)
		if !slices.Equal(l, want) {
			t.Fatalf("P1303 Push changes an answer of Pop(%d): %x, not %x", n, l, want)
		}
		spare := l[:cap(l)]
		for i := range spare {
			spare[i] = api.Word{7: 77}
		}
		hold(t, "P1303 an answer of Pop shares the words of the stack", s, r)
		other, _ := s.Pop(n)
		want, _ = r.pop(n)
		spare = l[:cap(l)]
		for i := range spare {
			spare[i] = api.Word{8: 88}
		}
		if !slices.Equal(other, want) {
			t.Fatalf("P1303 two answers of Pop(%d) share words", n)
		}
		hold(t, "P1303 answers of Pop share the words of the stack", s, r)
	}
}

// TestStacksApart changes many stacks side by side, one in each goroutine and two in turn.
func TestStacksApart(t *testing.T) {
	var wait sync.WaitGroup
	for i := range 8 {
		wait.Go(func() {
			var a, b mem.Stack
			for n := range 500 {
				a.Push(low(n + i))
				b.Push(low(1000 + n + i))
				a.Dup(n + 1)
				b.Swap(n)
				l, ok := a.Pop(2)
				if !ok || l[0] != low(i) || l[1] != low(n+i) || b.Len() != n+1 || a.Len() != n {
					t.Errorf("P1302 stacks beside each other, at %d: %x", n, l)
					return
				}
				a.Push(l[1])
			}
		})
	}
	wait.Wait()
}

func BenchmarkPushPop(b *testing.B) {
	var s mem.Stack
	w := low(7)
	for b.Loop() {
		s.Push(w)
		s.Push(w)
		s.Dup(2)
		s.Swap(1)
		s.Pop(3)
	}
}
