package tx_test

import (
	"bytes"
	"slices"
	"sync"
	"testing"

	"muniments/api"
	"muniments/state"
	"muniments/tx"
)

// TestItemMemory demands that Item leaves the data as they are, and memory of its own for each list.
func TestItemMemory(t *testing.T) {
	a := someTx()
	a.Data = spacious(a.Data)
	want := refItem(a)
	for k := range 7 {
		got, _ := tx.Item(a)
		fill(got.List[k].Bytes, 99)
		for i, e := range got.List {
			if i != k && !sameItem(e, want.List[i]) {
				t.Errorf("P1603 Item: the elements %d and %d share memory", k, i)
			}
		}
		if !sameTx(a, someTx()) || !tight(a.Data) {
			t.Fatalf("P1603 Item: the element %d shares memory with the data", k)
		}
		if again, _ := tx.Item(a); !sameItem(again, want) {
			t.Errorf("P1603 Item: the element %d shares memory with a later one", k)
		}
		fill(got.List, api.Item{})
	}
	got, _ := tx.Item(a)
	clear(a.Data)
	if !sameItem(got, want) {
		t.Errorf("P1603 Item keeps the data")
	}
}

// TestOfMemory demands that Of leaves the item as it is, and keeps nothing of it.
func TestOfMemory(t *testing.T) {
	i := refItem(someTx())
	for k := range i.List {
		i.List[k].Bytes = spacious(i.List[k].Bytes)
	}
	i.List = append(i.List, api.Item{Bytes: []byte{5}})[:7]
	got, ok := tx.Of(i)
	fill(got.Data, 99)
	if !ok || !sameItem(i, refItem(someTx())) || !bytes.Equal(i.List[:8][7].Bytes, []byte{5}) {
		t.Errorf("P1603 Of changes its argument, or the data share memory with it")
	}
	for k := range i.List {
		if !tight(i.List[k].Bytes) {
			t.Errorf("P1603 Of changes what lies behind the element %d", k)
		}
	}
	got, _ = tx.Of(i)
	for k := range i.List {
		fill(i.List[k].Bytes, 99)
	}
	if !sameTx(got, someTx()) {
		t.Errorf("P1603 Of keeps its argument: %s", show(got))
	}
}

// TestPackMemory demands the same of Pack and Read.
func TestPackMemory(t *testing.T) {
	a := someTx()
	a.Data = spacious(a.Data)
	want := refPack(a)
	b, _ := tx.Pack(a)
	fill(b, 99)
	if !sameTx(a, someTx()) || !tight(a.Data) {
		t.Errorf("P1603 Pack changes the data, or shares memory with them")
	}
	if b, _ = tx.Pack(a); !bytes.Equal(b, want) {
		t.Errorf("P1603 Pack shares memory with an earlier one")
	}
	clear(a.Data)
	if !bytes.Equal(b, want) {
		t.Errorf("P1603 Pack keeps the data")
	}
	b = spacious(want)
	got, _ := tx.Read(b)
	fill(got.Data, 99)
	if !bytes.Equal(b, want) || !tight(b) {
		t.Errorf("P1603 Read changes its argument, or shares memory with it")
	}
	got, _ = tx.Read(b)
	fill(b, 99)
	if !sameTx(got, someTx()) {
		t.Errorf("P1603 Read keeps its argument: %s", show(got))
	}
}

// TestApplyData demands that Apply leaves the data as they are and keeps nothing of them, in the state or in the receipt.
func TestApplyData(t *testing.T) {
	init := prog("CODESIZE", 0, 0, "CODECOPY CODESIZE", 0, "LOG0 CODESIZE", 0, "RETURN")
	echo := prog("CALLDATASIZE", 0, 0, "CALLDATACOPY CALLDATASIZE", 0, "LOG0", 0, "CALLDATALOAD", 0, "SSTORE CALLDATASIZE", 0, "RETURN")
	for _, make := range []bool{false, true} {
		l := []api.Account{{Addr: alice, Balance: of(1_000_000)}, {Addr: code1, Code: echo}}
		s := state.New(l)
		data := spacious(init)
		a := api.Tx{Price: 1, Gas: 200_000, From: alice, To: code1, Make: make, Data: data}
		after, want, _ := refApply(l, a, someContext)
		r, err := tx.Apply(s, a, someContext)
		if err != api.OK || r.Err != api.OK || len(r.Logs) != 1 {
			t.Fatalf("the test itself: %s, error %d", show(r), err)
		}
		if !bytes.Equal(data, init) || !tight(data) {
			t.Errorf("P1603 Apply changes the data")
		}
		fill(data, 99)
		if !sameReceipt(r, want) || !sameAccounts(s.Accounts(), after) {
			t.Errorf("P1603 Apply keeps the data: %s and %s", show(r), show(s.Accounts()))
		}
	}
}

// TestReceiptMemory demands memory of its own for each list of a receipt.
func TestReceiptMemory(t *testing.T) {
	l := []api.Account{{Addr: alice, Balance: of(1_000_000)}, {Addr: code1, Code: prog(of(-1), 0, "MSTORE", 3, 2, 5, 0, "LOG2", 4, 9, 0, "LOG1", 40, 0, "RETURN")}}
	a := api.Tx{Price: 1, Gas: 50_000, From: alice, To: code1}
	after, want, _ := refApply(l, a, someContext)
	for part := range 6 {
		s := state.New(l)
		r, _ := tx.Apply(s, a, someContext)
		fresh, _ := tx.Apply(state.New(l), a, someContext)
		switch part {
		case 0:
			fill(r.Out, 7)
			fresh.Out = r.Out
		case 1, 2:
			fill(r.Logs[part-1].Data, 7)
			fresh.Logs[part-1].Data = r.Logs[part-1].Data
		case 3, 4:
			fill(r.Logs[part-3].Topics, of(7))
			fresh.Logs[part-3].Topics = r.Logs[part-3].Topics
		case 5:
			fill(r.Logs, api.Log{})
			fresh.Logs = r.Logs
		}
		if !sameReceipt(r, fresh) {
			t.Errorf("P1603 lists of a receipt share memory: %s, not %s", show(r), show(fresh))
		}
		if !sameAccounts(s.Accounts(), after) {
			t.Errorf("P1603 a receipt shares memory with the state: %s", show(s.Accounts()))
		}
		if again, _ := tx.Apply(state.New(l), a, someContext); !sameReceipt(again, want) {
			t.Errorf("P1603 a receipt shares memory with a later one: %s, not %s", show(again), show(want))
		}
	}
}

// TestRecords demands that a transaction leaves no record of its own, and that it can be undone by one that was there.
func TestRecords(t *testing.T) {
	l := []api.Account{{Addr: alice, Balance: of(1_000_000)}, {Addr: code1, Code: prog(1, 1, "SSTORE", 0, 0, 0, "CREATE", 0, 0, 0, 0, 1, bob, 5000, "CALL")}}
	for _, a := range []api.Tx{
		{Price: 1, Gas: 200_000, From: alice, To: bob, Value: of(5)}, {Price: 1, Gas: 200_000, From: alice, To: code1, Value: of(5)}, {Price: 1, Gas: 30_000, From: alice, To: code1, Value: of(5)}, {Price: 1, Gas: 200_000, From: alice, Make: true, Value: of(5)},
		{Price: 1, Gas: 20_000, From: alice, To: bob}, {Nonce: 1, Price: 1, Gas: 200_000, From: alice, To: bob}, {Price: 10, Gas: 200_000, From: alice, To: bob}, {Price: -1, Gas: 200_000, From: alice, To: bob},
	} {
		s := state.New(l)
		first := s.Mark()
		_, err := tx.Apply(s, a, someContext)
		between := s.Accounts()
		last := s.Mark()
		if err != api.OK && last != first+1 {
			t.Errorf("P1602 a transaction with the error %d makes records", err)
		}
		for n := first + 1; n < last; n++ {
			if s.Back(n) {
				t.Errorf("P1602 a transaction leaves the record %d", n)
			}
		}
		s.SetNonce(code2, 9)
		if !s.Back(last) || !sameAccounts(s.Accounts(), between) {
			t.Errorf("P1602 Back to a record after a transaction: %s, not %s", show(s.Accounts()), show(between))
		}
		if !s.Back(first) || !sameAccounts(s.Accounts(), l) {
			t.Errorf("P1602 Back over a transaction: %s, not %s", show(s.Accounts()), show(l))
		}
	}
}

// TestTogether calls all functions many times at once: each answer hangs on its own arguments alone.
func TestTogether(t *testing.T) {
	n := noise(5)
	var all sync.WaitGroup
	for range 8 {
		l := n.accounts()
		a := n.sent(l)
		after, want, wantErr := refApply(l, a, someContext)
		other := n.tx()
		b := refPack(other)
		all.Go(func() {
			for range 30 {
				s := state.New(l)
				r, err := tx.Apply(s, a, someContext)
				if err != wantErr || !sameReceipt(r, want) || !sameAccounts(s.Accounts(), after) {
					t.Errorf("P1603 a transaction beside others: %s, error %d, not %s, %d", show(r), err, show(want), wantErr)
				}
				packed, _ := tx.Pack(other)
				read, _ := tx.Read(b)
				if !slices.Equal(packed, b) || !sameTx(read, other) {
					t.Errorf("P1603 bytes beside others: %s and %s, not %s", show(packed), show(read), show(b))
				}
			}
		})
	}
	all.Wait()
}

func BenchmarkApply(b *testing.B) {
	s := state.New([]api.Account{{Addr: alice, Balance: power(200, 0)}})
	nonce := 0
	for b.Loop() {
		if _, err := tx.Apply(s, api.Tx{Nonce: nonce, Price: 1, Gas: 21000, From: alice, To: bob, Value: of(1)}, someContext); err != api.OK {
			b.Fatal(err)
		}
		nonce++
	}
}

func BenchmarkPackRead(b *testing.B) {
	a := someTx()
	for b.Loop() {
		packed, _ := tx.Pack(a)
		if _, err := tx.Read(packed); err != api.OK {
			b.Fatal(err)
		}
	}
}
