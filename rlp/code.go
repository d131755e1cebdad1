package rlp

import (
	"math/bits"
	"slices"

	"muniments/api"
)

// The heads of the empty byte string and of the empty list. A head adds to them a length that is at most inHead, or inHead and how many bytes of a length follow it.
const (
	textHead = 128
	listHead = 192
	inHead   = 55
)

// headSize returns how many bytes the head for n bytes has.
func headSize(n int) int {
	if n <= inHead {
		return 1
	}
	return 1 + lengthSize(n)
}

// lengthSize returns how many bytes n has without leading zeros.
func lengthSize(n int) int {
	return (bits.Len(uint(n)) + 7) / 8
}

// put writes the encoding of p to the end of b and returns what of b is ahead of it. It begins at the end, because the length that stands in the head of a list is known when the items are written.
func put(b []byte, p piece) []byte {
	front := b
	switch p := p.(type) {
	case single:
		front = putByte(b, byte(p))
	case text:
		front = b[:len(b)-len(p)]
		copy(b[len(front):], p)
		front = putHead(front, textHead, len(p))
	case list:
		for _, sub := range slices.Backward(p) {
			front = put(front, sub)
		}
		front = putHead(front, listHead, len(b)-len(front))
	}
	return front
}

// putHead writes the head for n bytes to the end of b and returns what of b is ahead of it.
func putHead(b []byte, kind byte, n int) []byte {
	if n <= inHead {
		return putByte(b, kind+byte(n))
	}
	size := lengthSize(n)
	for ; n > 0; n >>= 8 {
		b = putByte(b, byte(n))
	}
	return putByte(b, kind+inHead+byte(size))
}

func putByte(b []byte, v byte) []byte {
	b[len(b)-1] = v
	return b[:len(b)-1]
}

// parse returns the tree of the item that b begins with, which is nested in so many lists, and what follows it.
func parse(b []byte, nested int) (piece, []byte, api.Errno) {
	if len(b) > 0 && b[0] >= listHead && nested == api.MaxDeep {
		return nil, nil, api.ErrLong
	}
	body, rest, ok := split(b)
	switch {
	case !ok:
		return nil, nil, api.ErrByte
	case b[0] < textHead:
		return single(b[0]), rest, api.OK
	case b[0] < listHead:
		return text(body), rest, api.OK
	}
	l, err := parseList(body, nested+1)
	return l, rest, err
}

// parseList returns the items that make up b.
func parseList(b []byte, nested int) (list, api.Errno) {
	l := make(list, 0, count(b))
	for len(b) > 0 {
		p, rest, err := parse(b, nested)
		if err != api.OK {
			return nil, err
		}
		l = append(l, p)
		b = rest
	}
	return l, api.OK
}

// count returns how many items b has, ahead of the first one whose head is wrong.
func count(b []byte) int {
	for n := 0; ; n++ {
		_, rest, ok := split(b)
		if !ok {
			return n
		}
		b = rest
	}
}

// split returns the bytes that the head at the beginning of b tells of, and what follows them. It returns false if b is empty, if the head is not the one for these bytes, or if some of them are missing.
func split(b []byte) (body, rest []byte, ok bool) {
	switch {
	case len(b) == 0:
		return nil, nil, false
	case b[0] < textHead:
		return b[:1], b[1:], true
	}
	n := int(b[0] % (listHead - textHead))
	tail := b[1:]
	if n > inHead {
		size := n - inHead
		if n, ok = length(tail, size); !ok {
			return nil, nil, false
		}
		tail = tail[size:]
	}
	if n > len(tail) || b[0] == textHead+1 && tail[0] < textHead {
		return nil, nil, false
	}
	return tail[:n], tail[n:], true
}

// length returns the number that the first bytes of b, size of them, represent. It returns false if they are missing, if they have a leading zero, or if the number belongs in the head or is greater than any encoding.
func length(b []byte, size int) (int, bool) {
	if size > len(b) || b[0] == 0 || size > lengthSize(most) {
		return 0, false
	}
	n := 0
	for _, v := range b[:size] {
		n = n<<8 | int(v)
	}
	return n, n > inHead
}
