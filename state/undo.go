package state

import "muniments/api"

// part is what stands at one place of a state. Each change puts a part to its place, and is undone by putting back the one that stood there. Parts of all kinds can be compared.
type part interface {
	// none is what stands at the same place when nothing was set.
	none() part
}

// nonce is that of an account.
type nonce struct {
	addr api.Addr
	n    int
}

// balance is that of an account.
type balance struct {
	addr api.Addr
	w    api.Word
}

// code is that of an account.
type code struct {
	addr api.Addr
	text string
}

// slot is the value of an account for a key.
type slot struct {
	addr       api.Addr
	key, value api.Word
}

// whole is all that an account has, nil if it has nothing. While it stands at no place, nothing changes it.
type whole struct {
	addr    api.Addr
	account *account
}

func (p nonce) none() part   { return nonce{addr: p.addr} }
func (p balance) none() part { return balance{addr: p.addr} }
func (p code) none() part    { return code{addr: p.addr} }
func (p slot) none() part    { return slot{addr: p.addr, key: p.key} }
func (p whole) none() part   { return whole{addr: p.addr} }

// change puts p to its place, so that Back can undo it.
func (s *State) change(p part) {
	old := s.put(p)
	if k := len(s.records); k > 0 && old != p {
		s.records[k-1].note(old)
	}
}

// put puts p to its place and returns what stood there.
func (s *State) put(p part) part {
	switch p := p.(type) {
	case nonce:
		a := s.open(p.addr)
		p.n, a.nonce = a.nonce, p.n
		s.keep(p.addr, a)
		return p
	case balance:
		a := s.open(p.addr)
		p.w, a.balance = a.balance, p.w
		s.keep(p.addr, a)
		return p
	case code:
		a := s.open(p.addr)
		p.text, a.code = a.code, p.text
		s.keep(p.addr, a)
		return p
	case slot:
		a := s.open(p.addr)
		old := a.slots[p.key]
		a.set(p.key, p.value)
		s.keep(p.addr, a)
		p.value = old
		return p
	case whole:
		old := s.accounts[p.addr]
		s.keep(p.addr, p.account)
		p.account = old
		return p
	}
	return p
}

// open returns the account of addr, to be changed and kept.
func (s *State) open(addr api.Addr) *account {
	if a := s.accounts[addr]; a != nil {
		return a
	}
	return &account{}
}

// record is a state that Back can restore, by what was changed between it and the next record, or the present.
type record struct {
	number int
	parts  []part // what stood at the changed places, the first change first
	places map[part]struct{}
}

// note keeps old, unless the place was changed before: what stood there first is what Back restores.
func (r *record) note(old part) {
	place := old.none()
	if _, known := r.places[place]; known {
		return
	}
	if r.places == nil {
		r.places = map[part]struct{}{}
	}
	r.places[place] = struct{}{}
	r.parts = append(r.parts, old)
}
