package rlp

import (
	"bytes"

	"muniments/api"
)

// piece is a node of the tree between items and their encodings. It has one kind for each form of an encoding, and its texts are pieces of the argument, so that a tree lives no longer than a call.
type piece interface{ form() }

// single is a byte string of one byte that encodes itself.
type single byte

// text is any other byte string.
type text []byte

// list is a list of items.
type list []piece

func (single) form() {}
func (text) form()   {}
func (list) form()   {}

// grower makes the tree of an item. Its room is what is left of the bytes that an encoding may have: it is spent item by item, so that an item that has itself as a part, or one part many times, is left early.
type grower struct{ room int }

// grow returns the tree of i, which is nested in so many lists, or false if it is too deep or too long.
func (g *grower) grow(i *api.Item, nested int) (piece, bool) {
	switch {
	case i.IsList:
		return g.growList(i.List, nested)
	case len(i.Bytes) == 1 && i.Bytes[0] < textHead:
		return single(i.Bytes[0]), g.spend(1)
	}
	n := len(i.Bytes)
	return text(i.Bytes), n <= most && g.spend(headSize(n)+n)
}

func (g *grower) growList(items []api.Item, nested int) (piece, bool) {
	if nested == api.MaxDeep || len(items) > g.room {
		return nil, false
	}
	l := make(list, len(items))
	before := g.room
	for k := range items {
		p, ok := g.grow(&items[k], nested+1)
		if !ok {
			return nil, false
		}
		l[k] = p
	}
	return l, g.spend(headSize(before - g.room))
}

// spend takes n bytes off the room, and reports whether they were there.
func (g *grower) spend(n int) bool {
	g.room -= n
	return g.room >= 0
}

// item returns the item of a tree, with copies of its texts.
func item(p piece) api.Item {
	var i api.Item
	switch p := p.(type) {
	case single:
		i.Bytes = []byte{byte(p)}
	case text:
		i.Bytes = bytes.Clone(p)
	case list:
		i.IsList = true
		i.List = make([]api.Item, len(p))
		for k, sub := range p {
			i.List[k] = item(sub)
		}
	}
	return i
}
