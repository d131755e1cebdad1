package rlp_test

import (
	"bytes"
	"errors"
	"math/big"

	"muniments/api"
)

// The reference: the chapter's words, spelled out plainly, without regard to length or speed.

var (
	errLong = errors.New("long")
	errByte = errors.New("byte")
)

// lengthBytes is n, the most significant byte first, the first one not 0.
func lengthBytes(n int) []byte { return big.NewInt(int64(n)).Bytes() }

// refHead is the head of n bytes; short is 128 or 192.
func refHead(short byte, n int) []byte {
	if n < 56 {
		return []byte{short + byte(n)}
	}
	size := lengthBytes(n)
	return append([]byte{short + 55 + byte(len(size))}, size...)
}

// refPack is the encoding of i.
func refPack(i api.Item) []byte {
	if !i.IsList {
		if len(i.Bytes) == 1 && i.Bytes[0] < 128 {
			return []byte{i.Bytes[0]}
		}
		return append(refHead(128, len(i.Bytes)), i.Bytes...)
	}
	var body []byte
	for _, sub := range i.List {
		body = append(body, refPack(sub)...)
	}
	return append(refHead(192, len(body)), body...)
}

// depth is the depth of i.
func depth(i api.Item) int {
	if !i.IsList {
		return 0
	}
	greatest := 0
	for _, sub := range i.List {
		greatest = max(greatest, depth(sub))
	}
	return greatest + 1
}

// open is a list whose items are being read.
type open struct {
	end   int
	items []api.Item
}

// refRead goes over b byte by byte, with a stack of the lists that are open.
func refRead(b []byte) (api.Item, error) {
	lists := []open{{end: len(b)}}
	at := 0
	for {
		last := &lists[len(lists)-1]
		if len(lists) > 1 && at == last.end {
			closed := api.Item{IsList: true, List: last.items}
			lists = lists[:len(lists)-1]
			lists[len(lists)-1].items = append(lists[len(lists)-1].items, closed)
		} else if at == last.end {
			return api.Item{}, errByte // no byte at all
		} else if b[at] < 128 {
			last.items = append(last.items, api.Item{Bytes: b[at : at+1]})
			at++
		} else {
			if b[at] >= 192 && len(lists) > api.MaxDeep {
				return api.Item{}, errLong
			}
			start, n, err := refLength(b, at, last.end)
			if err != nil {
				return api.Item{}, err
			}
			if b[at] >= 192 {
				lists = append(lists, open{end: start + n})
				at = start
				continue
			}
			body := b[start : start+n]
			if n == 1 && body[0] < 128 {
				return api.Item{}, errByte
			}
			last.items = append(last.items, api.Item{Bytes: body})
			at = start + n
		}
		if len(lists) == 1 && len(lists[0].items) == 1 {
			if at < len(b) {
				return api.Item{}, errByte
			}
			return lists[0].items[0], nil
		}
	}
}

// refLength is where the bytes begin that the head at b[at] tells of, and how many they are; they must end by end.
func refLength(b []byte, at, end int) (start, n int, err error) {
	short := b[at] &^ 63
	count := int(b[at] - short)
	if count < 56 {
		if at+1+count > end {
			return 0, 0, errByte
		}
		return at + 1, count, nil
	}
	m := count - 55
	if at+1+m > end {
		return 0, 0, errByte
	}
	size := new(big.Int).SetBytes(b[at+1 : at+1+m])
	if b[at+1] == 0 || size.Cmp(big.NewInt(56)) < 0 || size.Cmp(big.NewInt(int64(end-at-1-m))) > 0 {
		return 0, 0, errByte
	}
	return at + 1 + m, int(size.Int64()), nil
}

// same reports whether a and b are one item, and have nothing in the fields that their kinds ignore.
func same(a, b api.Item) bool {
	if a.IsList != b.IsList || len(a.List) != len(b.List) || !bytes.Equal(a.Bytes, b.Bytes) {
		return false
	}
	if a.IsList && (len(a.Bytes) > 0 || len(b.Bytes) > 0) || !a.IsList && (len(a.List) > 0 || len(b.List) > 0) {
		return false
	}
	for k := range a.List {
		if !same(a.List[k], b.List[k]) {
			return false
		}
	}
	return true
}

// empty reports whether i is the zero item.
func empty(i api.Item) bool { return !i.IsList && len(i.Bytes) == 0 && len(i.List) == 0 }
