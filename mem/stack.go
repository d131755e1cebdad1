package mem

import (
	"muniments/api"
)

// Stack is a stack of at most api.MaxStack words. A zero Stack is empty.
type Stack struct {
	words []api.Word // the last one that was added stands last
}

// Push adds w. It returns false if there is no room.
func (s *Stack) Push(w api.Word) bool {
	if len(s.words) >= api.MaxStack {
		return false
	}
	s.words = append(s.words, w)
	return true
}

// Pop removes n words and returns them, the last one first, and true, or no words and false if there are not so many.
func (s *Stack) Pop(n int) ([]api.Word, bool) {
	rest := len(s.words) - n
	if n < 0 || rest < 0 {
		return nil, false
	}
	popped := make([]api.Word, n)
	for i := range popped {
		popped[i] = s.words[len(s.words)-1-i]
	}
	s.words = s.words[:rest]
	return popped, true
}

// Dup adds a copy of the n-th last word, the last one being the first. It returns false if there is no such word or no room.
func (s *Stack) Dup(n int) bool {
	if n < 1 || n > len(s.words) {
		return false
	}
	return s.Push(s.words[len(s.words)-n])
}

// Swap exchanges the last word and the one n below it. It returns false if there is no such word.
func (s *Stack) Swap(n int) bool {
	top := len(s.words) - 1
	if n < 1 || n > top {
		return false
	}
	s.words[top], s.words[top-n] = s.words[top-n], s.words[top]
	return true
}

// Len returns the number of words.
func (s *Stack) Len() int { return len(s.words) }
