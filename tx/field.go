package tx

import (
	"bytes"

	"muniments/api"
	"muniments/rlp"
)

// field is a field of a transaction, by its place there. Its kind tells which item it becomes, and which items can be read to it.
type field interface{ form() }

// count is a number.
type count int

// amount is a word without leading zeros.
type amount api.Word

// account is an address with all its bytes.
type account api.Addr

// target is the account that is called, or no bytes if one is made.
type target struct {
	to    *api.Addr
	makes *bool
}

// text is any bytes.
type text []byte

func (*count) form()   {}
func (*amount) form()  {}
func (*account) form() {}
func (target) form()   {}
func (*text) form()    {}

// fields returns the fields of t in the order in which they are encoded.
func fields(t *api.Tx) [7]field {
	return [...]field{
		(*count)(&t.Nonce), (*count)(&t.Price), (*count)(&t.Gas),
		(*account)(&t.From), target{&t.To, &t.Make}, (*amount)(&t.Value), (*text)(&t.Data),
	}
}

// show returns the item of f.
func show(f field) api.Item {
	var i api.Item
	switch f := f.(type) {
	case *count:
		i = rlp.Num(int(*f))
	case *amount:
		i = rlp.Big(api.Word(*f))
	case *account:
		i.Bytes = bytes.Clone(f[:])
	case target:
		if !*f.makes {
			i.Bytes = bytes.Clone(f.to[:])
		}
	case *text:
		i.Bytes = bytes.Clone(*f)
	}
	return i
}

// fill makes f the field whose item i is, or returns false if there is none.
func fill(f field, i api.Item) bool {
	ok := false
	switch f := f.(type) {
	case *count:
		var n int
		n, ok = rlp.Int(i)
		*f = count(n)
	case *amount:
		var w api.Word
		w, ok = rlp.Word(i)
		*f = amount(w)
	case *account:
		ok = fillAddr((*api.Addr)(f), i)
	case target:
		*f.makes = !i.IsList && len(i.Bytes) == 0
		ok = *f.makes || fillAddr(f.to, i)
	case *text:
		ok = !i.IsList
		*f = bytes.Clone(i.Bytes)
	}
	return ok
}

// fillAddr makes a the address whose bytes i is, or returns false if there is none.
func fillAddr(a *api.Addr, i api.Item) bool {
	copy(a[:], i.Bytes)
	return !i.IsList && len(i.Bytes) == len(a)
}
