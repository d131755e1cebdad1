package nodes_test

import (
	"bytes"
	"fmt"
	"slices"
	"strings"
	"testing"

	"muniments/api"
	"muniments/keccak"
	"muniments/nodes"
)

// noise makes bytes that look random and are always the same.
type noise uint32

func (n *noise) byte() byte {
	*n = *n*1664525 + 1013904223
	return byte(*n >> 24)
}

func (n *noise) bytes(count int) []byte {
	b := make([]byte, count)
	for i := range b {
		b[i] = n.byte()
	}
	return b
}

// below is a number from 0 to most - 1.
func (n *noise) below(most int) int {
	return (int(n.byte())<<16 | int(n.byte())<<8 | int(n.byte())) % most
}

// hash is a word that stands for a hash.
func hash(n int) api.Word { return api.Word{0: byte(n >> 8), 31: byte(n)} }

func node(h int, text string) api.Node { return api.Node{Hash: hash(h), Bytes: []byte(text)} }

// holds demands of s just the nodes l, which stand by rising hash.
func holds(t *testing.T, s *nodes.Store, l ...api.Node) {
	t.Helper()
	if got := s.Nodes(); !sameNodes(got, l) {
		t.Fatalf("P701 Nodes: %x, not %x", got, l)
	}
	for _, n := range l {
		if b, ok := s.Get(n.Hash); !ok || !bytes.Equal(b, n.Bytes) {
			t.Fatalf("P701 Get of %x: %x, %v, not %x", n.Hash, b, ok, n.Bytes)
		}
	}
}

// lacks demands that s has no node with the hash h.
func lacks(t *testing.T, s *nodes.Store, h api.Word) {
	t.Helper()
	if b, ok := s.Get(h); ok || len(b) != 0 {
		t.Fatalf("P701 Get of %x: %x, %v, but there is none", h, b, ok)
	}
	if s.Drop(h) {
		t.Fatalf("P701 Drop of %x: true, but there is none", h)
	}
}

func TestNewStore(t *testing.T) {
	for _, none := range [][]api.Node{nil, {}} {
		s := nodes.NewStore(none)
		if s == nil {
			t.Fatalf("P701 NewStore of no nodes: no store")
		}
		holds(t, s)
		lacks(t, s, hash(0))
		lacks(t, s, hash(1))
	}
	holds(t, nodes.NewStore([]api.Node{node(1, "a"), node(1, "b")}), node(1, "a"))
	holds(t, nodes.NewStore([]api.Node{node(3, "c"), node(1, "a"), node(2, "b"), node(1, "d"), node(3, "")}), node(1, "a"), node(2, "b"), node(3, "c"))
	holds(t, nodes.NewStore([]api.Node{node(0, ""), node(0, "a")}), node(0, ""))
}

func TestStorePut(t *testing.T) {
	s := nodes.NewStore([]api.Node{node(2, "b")})
	if n := s.Put([]api.Node{node(1, "a"), node(2, "c")}); n != 1 {
		t.Errorf("P701 Put of 1 and 2, of which 2 is there: %d, not 1", n)
	}
	holds(t, s, node(1, "a"), node(2, "b"))
	for _, c := range []struct {
		l    []api.Node
		want int
	}{
		{nil, 0},
		{[]api.Node{}, 0},
		{[]api.Node{node(1, "a"), node(2, "b")}, 0},
		{[]api.Node{node(3, "c"), node(3, "d"), node(3, "e")}, 1},
		{[]api.Node{node(0, "z"), node(256, "y"), node(3, "x"), node(0, "w")}, 2},
	} {
		if n := s.Put(c.l); n != c.want {
			t.Errorf("P701 Put of %x: %d, not %d", c.l, n, c.want)
		}
	}
	holds(t, s, node(0, "z"), node(1, "a"), node(2, "b"), node(3, "c"), node(256, "y"))
}

func TestDrop(t *testing.T) {
	s := nodes.NewStore([]api.Node{node(1, "a"), node(2, "b")})
	if s.Drop(hash(3)) {
		t.Errorf("P701 Drop of a hash that isn't there: true")
	}
	if !s.Drop(hash(1)) {
		t.Errorf("P701 Drop of a hash that is there: false")
	}
	if s.Drop(hash(1)) {
		t.Errorf("P701 Drop of the same hash again: true")
	}
	holds(t, s, node(2, "b"))
	lacks(t, s, hash(1))
	if n := s.Put([]api.Node{node(1, "c")}); n != 1 {
		t.Errorf("P701 Put of a hash that was dropped: %d, not 1", n)
	}
	holds(t, s, node(1, "c"), node(2, "b"))
	if !s.Drop(hash(1)) || !s.Drop(hash(2)) {
		t.Errorf("P701 Drop of all: false")
	}
	holds(t, s)
	if !nodes.NewStore([]api.Node{node(5, "")}).Drop(hash(5)) {
		t.Errorf("P701 Drop of a node without Bytes: false")
	}
}

// TestOrderOfNodes has hashes that differ at each byte.
func TestOrderOfNodes(t *testing.T) {
	var l []api.Node
	for i := range 32 {
		for _, v := range []byte{1, 127, 128, 255} {
			var h api.Word
			h[i] = v
			l = append(l, api.Node{Hash: h, Bytes: []byte{byte(i), v}})
		}
	}
	s := nodes.NewStore(l)
	slices.SortFunc(l, func(a, b api.Node) int { return strings.Compare(string(a.Hash[:]), string(b.Hash[:])) })
	for range 5 {
		holds(t, s, l...)
	}
}

// TestStoreNoise holds a store against a map.
func TestStoreNoise(t *testing.T) {
	r := noise(1)
	for range 20 {
		s := nodes.NewStore(nil)
		want := map[api.Word][]byte{}
		for range 200 {
			h := hash(r.below(40))
			if r.below(3) == 0 {
				_, known := want[h]
				delete(want, h)
				if s.Drop(h) != known {
					t.Fatalf("P701 Drop of %x: %v, not %v", h, !known, known)
				}
				lacks(t, s, h)
				continue
			}
			count := 0
			var l []api.Node
			for range r.below(6) {
				n := api.Node{Hash: hash(r.below(40)), Bytes: r.bytes(r.below(4))}
				l = append(l, n)
				if _, known := want[n.Hash]; !known {
					want[n.Hash] = n.Bytes
					count++
				}
			}
			if n := s.Put(l); n != count {
				t.Fatalf("P701 Put of %x: %d, not %d", l, n, count)
			}
			holds(t, s, listOf(want)...)
		}
	}
}

// TestStores demands that two stores are independent, also if they were made of one list.
func TestStores(t *testing.T) {
	l := []api.Node{node(1, "a"), node(2, "b")}
	one, other := nodes.NewStore(l), nodes.NewStore(l)
	one.Drop(hash(1))
	one.Put([]api.Node{node(3, "c")})
	if !sameNodes(one.Nodes(), []api.Node{node(2, "b"), node(3, "c")}) || !sameNodes(other.Nodes(), l) {
		t.Errorf("P704 two stores: %x and %x", one.Nodes(), other.Nodes())
	}
	third := nodes.NewStore(other.Nodes())
	other.Drop(hash(2))
	if !sameNodes(third.Nodes(), l) {
		t.Errorf("P704 a store of the nodes of another one: %x", third.Nodes())
	}
	if _, ok := one.Get(hash(1)); ok {
		t.Errorf("P704 a store has what another one has")
	}
}

// spacious is a copy of b with something in its spare capacity.
func spacious(b []byte) []byte {
	room := append(slices.Clone(b), "spare"...)
	return room[:len(b)]
}

// spaciousNodes is a copy of l, with something in all spare capacities.
func spaciousNodes(l []api.Node) []api.Node {
	var all []api.Node
	for _, n := range l {
		all = append(all, api.Node{Hash: n.Hash, Bytes: spacious(n.Bytes)})
	}
	return append(all, node(99, "spare"))[:len(l)]
}

// wholeNodes is all that a list of nodes holds, with the spare capacities.
func wholeNodes(l []api.Node) string {
	var text strings.Builder
	for _, n := range l[:len(l)+1] {
		fmt.Fprintf(&text, "%x %x;", n.Hash, n.Bytes[:cap(n.Bytes)])
	}
	return text.String()
}

// wipe overwrites b with its spare capacity.
func wipe(b []byte) {
	for i := range b[:cap(b)] {
		b[:cap(b)][i] = 99
	}
}

func wipeNodes(l []api.Node) {
	for i := range l {
		wipe(l[i].Bytes)
	}
	clear(l[:cap(l)])
}

func cloneNodes(l []api.Node) []api.Node {
	var all []api.Node
	for _, n := range l {
		all = append(all, api.Node{Hash: n.Hash, Bytes: slices.Clone(n.Bytes)})
	}
	return all
}

// apart demands that the Bytes of l share no memory with each other.
func apart(t *testing.T, name string, l []api.Node) {
	t.Helper()
	want := cloneNodes(l)
	for i := range l {
		wipe(l[i].Bytes)
		if !sameNodes(l[i+1:], want[i+1:]) {
			t.Fatalf("P704 %s share memory with each other", name)
		}
	}
}

// TestStoreMemory demands that a store neither changes nor keeps what it is given, and that what it answers is its own no more.
func TestStoreMemory(t *testing.T) {
	want := []api.Node{node(1, "first"), node(2, ""), node(3, "third"), node(4, strings.Repeat("fourth", 20))}
	same := []byte("one text for two")
	for _, l := range [][]api.Node{want, {{Hash: hash(1), Bytes: same}, {Hash: hash(2), Bytes: same}}} {
		arg := spaciousNodes(l)
		before := wholeNodes(arg)
		s := nodes.NewStore(arg)
		other := nodes.NewStore(nil)
		other.Put(arg)
		if wholeNodes(arg) != before {
			t.Fatalf("P704 NewStore or Put changed the nodes: %s, not %s", wholeNodes(arg), before)
		}
		wipeNodes(arg)
		for _, s := range []*nodes.Store{s, other} {
			for _, n := range l {
				b, _ := s.Get(n.Hash)
				wipe(b)
			}
			got := s.Nodes()
			apart(t, "the nodes of Nodes", got)
			wipeNodes(got)
			if !sameNodes(s.Nodes(), l) {
				t.Fatalf("P704 a store shares memory with what it was given or what it answered: %x, not %x", s.Nodes(), l)
			}
		}
	}
}

// TestForeignHash demands that a store doesn't examine whether a hash is that of the Bytes.
func TestForeignHash(t *testing.T) {
	right := keccak.Sum([]byte("right"))
	s := nodes.NewStore([]api.Node{{Hash: right, Bytes: []byte("wrong")}})
	if n := s.Put([]api.Node{{Hash: right, Bytes: []byte("right")}}); n != 0 {
		t.Errorf("P701 Put of the right Bytes after the wrong ones: %d, not 0", n)
	}
	holds(t, s, api.Node{Hash: right, Bytes: []byte("wrong")})
}
