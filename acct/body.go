package acct

import (
	"muniments/api"
	"muniments/rlp"
)

// part is a field of a body, by its place there. Its kind tells which item it becomes, and which items can be read to it.
type part interface{ form() }

// count is a number.
type count int

// amount is a word without leading zeros.
type amount api.Word

// hash is a word with all its bytes.
type hash api.Word

func (*count) form()  {}
func (*amount) form() {}
func (*hash) form()   {}

// parts returns the fields of b in the order in which they are encoded.
func parts(b *api.Body) [4]part {
	return [...]part{(*count)(&b.Nonce), (*amount)(&b.Balance), (*hash)(&b.Root), (*hash)(&b.CodeHash)}
}

// item returns the list of b.
func item(b *api.Body) api.Item {
	var l []api.Item
	for _, p := range parts(b) {
		l = append(l, show(p))
	}
	return api.Item{IsList: true, List: l}
}

// read returns the body whose list i is, or false if there is none.
func read(i api.Item) (api.Body, bool) {
	var b api.Body
	l := parts(&b)
	if !i.IsList || len(i.List) != len(l) {
		return api.Body{}, false
	}
	for k, p := range l {
		if !fill(p, i.List[k]) {
			return api.Body{}, false
		}
	}
	return b, true
}

// show returns the item of p.
func show(p part) api.Item {
	var i api.Item
	switch p := p.(type) {
	case *count:
		i = rlp.Num(int(*p))
	case *amount:
		i = rlp.Big(api.Word(*p))
	case *hash:
		i.Bytes = p[:]
	}
	return i
}

// fill makes p the part whose item i is, or returns false if there is none.
func fill(p part, i api.Item) bool {
	ok := false
	switch p := p.(type) {
	case *count:
		var n int
		n, ok = rlp.Int(i)
		*p = count(n)
	case *amount:
		var w api.Word
		w, ok = rlp.Word(i)
		*p = amount(w)
	case *hash:
		ok = !i.IsList && len(i.Bytes) == len(p)
		copy(p[:], i.Bytes)
	}
	return ok
}
