package block

import (
	"muniments/api"
	"muniments/rlp"
	"muniments/tx"
)

// field is a field of a block, by its place there. Its kind tells which item it becomes, and which items can be read to it.
type field interface{ form() }

// count is a number.
type count int

// fixed is all bytes of a word or of an address.
type fixed []byte

// list is the transactions.
type list []api.Tx

func (*count) form() {}
func (fixed) form()  {}
func (*list) form()  {}

// fields returns the fields of b in the order in which they are encoded.
func fields(b *api.Block) [8]field {
	return [...]field{
		fixed(b.Parent[:]), (*count)(&b.Number), (*count)(&b.Time), fixed(b.Coinbase[:]),
		(*count)(&b.GasLimit), (*count)(&b.GasUsed), fixed(b.Root[:]), (*list)(&b.Txs),
	}
}

// item returns the list of b, which has no negative numbers.
func item(b api.Block) api.Item {
	i := api.Item{IsList: true}
	for _, f := range fields(&b) {
		i.List = append(i.List, show(f))
	}
	return i
}

// of returns the block whose list i is and true, or false if there is none.
func of(i api.Item) (api.Block, bool) {
	var b api.Block
	l := fields(&b)
	if len(i.List) != len(l) { // a byte string that was read has no elements
		return api.Block{}, false
	}
	for k, f := range l {
		if !fill(f, i.List[k]) {
			return api.Block{}, false
		}
	}
	return b, true
}

// show returns the item of f.
func show(f field) api.Item {
	var i api.Item
	switch f := f.(type) {
	case *count:
		i = rlp.Num(int(*f))
	case fixed:
		i.Bytes = f
	case *list:
		i.IsList = true
		for _, t := range *f {
			e, _ := tx.Item(t)
			i.List = append(i.List, e)
		}
	}
	return i
}

// fill makes f the field whose item i is, or returns false if there is none.
func fill(f field, i api.Item) bool {
	ok := false
	switch f := f.(type) {
	case *count:
		var n int
		n, ok = rlp.Int(i)
		*f = count(n)
	case fixed:
		ok = len(i.Bytes) == len(f) // a list that was read has no bytes
		copy(f, i.Bytes)
	case *list:
		ok = i.IsList && fillList(f, i.List)
	}
	return ok
}

// fillList makes l the transactions with these items, or returns false if one of them has none.
func fillList(l *list, items []api.Item) bool {
	for _, i := range items {
		t, ok := tx.Of(i)
		if !ok {
			return false
		}
		*l = append(*l, t)
	}
	return true
}
