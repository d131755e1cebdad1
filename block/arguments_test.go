package block_test

import (
	"bytes"
	"slices"
	"sync"
	"testing"

	"muniments/api"
	"muniments/block"
)

// What stands behind the end of each list that is given.
var (
	moreAccount = api.Account{Addr: api.Addr{5: 77}, Nonce: 77}
	moreSlot    = api.Slot{Key: of(77), Value: of(77)}
	moreTx      = api.Tx{Nonce: 77, Gas: 77}
)

// roomyAccounts is a copy of l whose lists all have spare capacity.
func roomyAccounts(l []api.Account) []api.Account {
	l = spacious(l, moreAccount)
	for i := range l {
		l[i].Code, l[i].Slots = spacious(l[i].Code, 77), spacious(l[i].Slots, moreSlot)
	}
	return l
}

// roomyBlock is such a copy of a block.
func roomyBlock(b api.Block) api.Block {
	b.Txs = spacious(b.Txs, moreTx)
	for i := range b.Txs {
		b.Txs[i].Data = spacious(b.Txs[i].Data, 77)
	}
	return b
}

// intactAccounts demands that roomyAccounts of want is as it was.
func intactAccounts(t *testing.T, name string, l, want []api.Account) {
	t.Helper()
	ok := sameAccounts(l, want) && sameAccounts(l[len(l):len(l)+3], []api.Account{moreAccount, moreAccount, moreAccount})
	for _, a := range l {
		ok = ok && bytes.Equal(a.Code[len(a.Code):len(a.Code)+3], []byte{77, 77, 77}) && slices.Equal(a.Slots[len(a.Slots):len(a.Slots)+3], []api.Slot{moreSlot, moreSlot, moreSlot})
	}
	if !ok {
		t.Errorf("P1703 %s: the accounts that were given are changed: %s", name, show(l))
	}
}

// intactBlock demands that roomyBlock of want is as it was.
func intactBlock(t *testing.T, name string, b, want api.Block) {
	t.Helper()
	n := len(b.Txs)
	ok := sameBlock(b, want) && slices.EqualFunc(b.Txs[n:n+3], []api.Tx{moreTx, moreTx, moreTx}, sameTx)
	for _, a := range b.Txs {
		ok = ok && bytes.Equal(a.Data[len(a.Data):len(a.Data)+3], []byte{77, 77, 77})
	}
	if !ok {
		t.Errorf("P1703 %s: a block that was given is changed: %s", name, show(b))
	}
}

// spoil makes all of a list, and of what it has, something else.
func spoilAccounts(l []api.Account) {
	for _, f := range accountParts(l) {
		f()
	}
}

func spoilBlock(b *api.Block) {
	for _, f := range blockParts(b) {
		f()
	}
}

// accountParts has, for each list of accounts l, what makes it something else; l itself is the last one.
func accountParts(l []api.Account) []func() {
	var parts []func()
	for _, a := range l {
		parts = append(parts, func() { fill(a.Code, 99) }, func() { fill(a.Slots, api.Slot{Key: of(99)}) })
	}
	return append(parts, func() { fill(l, api.Account{Nonce: 99}) })
}

func receiptParts(l []api.Receipt) []func() {
	var parts []func()
	for _, r := range l {
		parts = append(parts, func() { fill(r.Out, 99) })
		for _, log := range r.Logs {
			parts = append(parts, func() { fill(log.Topics, of(99)) }, func() { fill(log.Data, 99) })
		}
		parts = append(parts, func() { fill(r.Logs, api.Log{}) })
	}
	return append(parts, func() { fill(l, api.Receipt{Used: 99}) })
}

func blockParts(b *api.Block) []func() {
	var parts []func()
	for _, a := range b.Txs {
		parts = append(parts, func() { fill(a.Data, 99) })
	}
	return append(parts, func() { fill(b.Txs, api.Tx{Nonce: 99}) })
}

func copyAccounts(l []api.Account) []api.Account {
	l = slices.Clone(l)
	for i := range l {
		l[i].Code, l[i].Slots = slices.Clone(l[i].Code), slices.Clone(l[i].Slots)
	}
	return l
}

func copyReceipts(l []api.Receipt) []api.Receipt {
	l = slices.Clone(l)
	for i, r := range l {
		l[i].Out, l[i].Logs = slices.Clone(r.Out), slices.Clone(r.Logs)
		for k, log := range r.Logs {
			l[i].Logs[k].Topics, l[i].Logs[k].Data = slices.Clone(log.Topics), slices.Clone(log.Data)
		}
	}
	return l
}

func copyBlock(b api.Block) api.Block {
	b.Txs = slices.Clone(b.Txs)
	for i := range b.Txs {
		b.Txs[i].Data = slices.Clone(b.Txs[i].Data)
	}
	return b
}

// full is a job with lists of all kinds, in what is given and in what comes of it.
func full(t *testing.T) job {
	t.Helper()
	echo := prog("CALLDATASIZE", 0, 0, "CALLDATACOPY CALLDATASIZE", 0, "LOG0", 8, 9, 3, 0, "LOG2", 0, "CALLDATALOAD", 1, "SSTORE CALLDATASIZE", 0, "RETURN")
	init := prog("CODESIZE", 0, 0, "CODECOPY", 4, 1, "LOG0 CODESIZE", 0, "RETURN")
	j := job{l: append(rich(), api.Account{Addr: code1, Code: echo, Slots: []api.Slot{{Key: of(5), Value: of(6)}, {Key: of(7), Value: of(8)}}}, api.Account{Addr: code2, Code: echo, Slots: []api.Slot{{Key: of(5), Value: of(6)}}}), parent: someParent()}
	j.b = next(
		api.Tx{Nonce: 4, Price: 1, Gas: 90_000, From: alice, To: code1, Data: []byte("the first data, of 32 bytes in all")},
		api.Tx{Nonce: 5, Price: 1, Gas: 90_000, From: alice, To: code2, Data: []byte("the second data")},
		api.Tx{Nonce: 6, Price: 1, Gas: 90_000, From: alice, Make: true, Data: init},
		api.Tx{Nonce: 7, Price: 1, Gas: 90_000, From: alice, To: code1, Data: []byte("the second data")},
	)
	j.b = sealed(t, "lists of all kinds", j.l, j.parent, j.b)
	return j
}

// TestPackMemory demands that Pack, ID and Read leave what they are given, and keep nothing of it.
func TestPackMemory(t *testing.T) {
	want, _ := refPack(someBlock())
	b := roomyBlock(someBlock())
	raw, _ := block.Pack(b)
	id, _ := block.ID(b)
	fill(raw, 99)
	intactBlock(t, "Pack", b, someBlock())
	if raw, _ = block.Pack(b); !bytes.Equal(raw, want) {
		t.Errorf("P1703 Pack shares memory with an earlier one")
	}
	spoilBlock(&b)
	if !bytes.Equal(raw, want) {
		t.Errorf("P1703 Pack keeps what it is given")
	}
	if again, _ := block.ID(someBlock()); again != id {
		t.Errorf("P1703 ID: %x, and then %x", id, again)
	}
	raw = spacious(want, 77)
	got, _ := block.Read(raw)
	spoilBlock(&got)
	if !bytes.Equal(raw[:len(raw)+3], append(slices.Clone(want), 77, 77, 77)) {
		t.Errorf("P1703 Read changes its argument, or shares memory with it")
	}
	got, _ = block.Read(raw)
	fill(raw, 99)
	if !sameBlock(got, someBlock()) {
		t.Errorf("P1703 Read keeps its argument: %s", show(got))
	}
	for k := range blockParts(&got) {
		got, _ = block.Read(want)
		other := copyBlock(got)
		blockParts(&got)[k]()
		blockParts(&other)[k]()
		if !sameBlock(got, other) {
			t.Errorf("P1703 Read: the list %d shares memory with another one: %s", k, show(got))
		}
	}
}

// TestExecuteMemory demands that Execute leaves what it is given, keeps nothing of it, and answers lists of which no two share memory.
func TestExecuteMemory(t *testing.T) {
	j := full(t)
	l, parent, b := roomyAccounts(j.l), roomyBlock(j.parent), roomyBlock(j.b)
	after, receipts, err := block.Execute(l, parent, b)
	want, wantReceipts := copyAccounts(after), copyReceipts(receipts)
	if err != api.OK || len(after) != 6 || len(receipts) != 4 || len(receipts[0].Logs) != 2 {
		t.Fatalf("the test itself: %s, %s, error %d", show(after), show(receipts), err)
	}
	intact := func() {
		intactAccounts(t, "Execute", l, j.l)
		intactBlock(t, "Execute", parent, j.parent)
		intactBlock(t, "Execute", b, j.b)
	}
	intact()
	parts := func(l []api.Account, r []api.Receipt) []func() { return append(accountParts(l), receiptParts(r)...) }
	for k := range parts(after, receipts) {
		after, receipts, _ = block.Execute(l, parent, b)
		other, otherReceipts := copyAccounts(after), copyReceipts(receipts)
		parts(after, receipts)[k]()
		parts(other, otherReceipts)[k]()
		if !sameAccounts(after, other) || !sameReceipts(receipts, otherReceipts) {
			t.Errorf("P1703 Execute: the list %d shares memory with another one: %s, %s", k, show(after), show(receipts))
		}
		intact()
	}
	after, receipts, _ = block.Execute(l, parent, b)
	spoilAccounts(l)
	spoilBlock(&parent)
	spoilBlock(&b)
	if !sameAccounts(after, want) || !sameReceipts(receipts, wantReceipts) {
		t.Errorf("P1703 Execute keeps what it is given: %s, %s", show(after), show(receipts))
	}
	execute(t, "the same once more", j.l, j.parent, j.b)
}

// TestSealMemory demands the same of Seal.
func TestSealMemory(t *testing.T) {
	j := full(t)
	l, parent, b := roomyAccounts(j.l), roomyBlock(j.parent), roomyBlock(j.b)
	sealed, after, err := block.Seal(l, parent, b)
	want := copyAccounts(after)
	if err != api.OK || !sameBlock(sealed, j.b) {
		t.Fatalf("the test itself: %s, error %d", show(sealed), err)
	}
	intact := func() {
		intactAccounts(t, "Seal", l, j.l)
		intactBlock(t, "Seal", parent, j.parent)
		intactBlock(t, "Seal", b, j.b)
	}
	intact()
	parts := func(b *api.Block, l []api.Account) []func() { return append(blockParts(b), accountParts(l)...) }
	for k := range parts(&sealed, after) {
		sealed, after, _ = block.Seal(l, parent, b)
		other, otherAfter := copyBlock(sealed), copyAccounts(after)
		parts(&sealed, after)[k]()
		parts(&other, otherAfter)[k]()
		if !sameBlock(sealed, other) || !sameAccounts(after, otherAfter) {
			t.Errorf("P1703 Seal: the list %d shares memory with another one: %s, %s", k, show(sealed), show(after))
		}
		intact()
	}
	sealed, after, _ = block.Seal(l, parent, b)
	spoilAccounts(l)
	spoilBlock(&parent)
	spoilBlock(&b)
	if !sameBlock(sealed, j.b) || !sameAccounts(after, want) {
		t.Errorf("P1703 Seal keeps what it is given: %s, %s", show(sealed), show(after))
	}
	seal(t, "the same once more", j.l, j.parent, j.b)
}

// TestSharedArguments has arguments that share memory among themselves.
func TestSharedArguments(t *testing.T) {
	data := []byte("the same data for all")
	l := append(rich(), api.Account{Addr: code1, Code: data}, api.Account{Addr: code2, Code: data})
	txs := []api.Tx{send(4), send(5), {Nonce: 6, Gas: 90_000, From: alice, Make: true, Data: data}}
	txs[0].Data, txs[1].Data = data, data
	parent := someParent()
	parent.Txs = txs
	b, after, err := seal(t, "shared data", l, parent, next(txs...))
	if err != api.OK {
		t.Fatalf("P1702 Seal with shared data: error %d", err)
	}
	fill(b.Txs[0].Data, 9)
	fill(after[2].Code, 9)
	if string(b.Txs[1].Data) != string(data) || string(after[3].Code) != string(data) || string(data) != "the same data for all" {
		t.Errorf("P1703 Seal: results share the memory that the arguments share")
	}
}

// TestErrorsLeaveArguments demands that what is given is left as it is beside an error, too.
func TestErrorsLeaveArguments(t *testing.T) {
	ways, _ := faults()
	for _, l := range ways {
		for _, f := range l {
			j := base(t)
			f.spoil(&j)
			l, parent, b := roomyAccounts(j.l), roomyBlock(j.parent), roomyBlock(j.b)
			block.Execute(l, parent, b)
			block.Seal(l, parent, b)
			block.Pack(b)
			block.ID(b)
			intactAccounts(t, f.name, l, j.l)
			intactBlock(t, f.name, parent, j.parent)
			intactBlock(t, f.name, b, j.b)
		}
	}
}

// TestTogether calls all functions many times at once, on the same arguments.
func TestTogether(t *testing.T) {
	j := full(t)
	raw, _ := refPack(j.b)
	id, _ := block.ID(j.b)
	after, receipts, _ := refExecute(j.l, j.parent, j.b)
	var all sync.WaitGroup
	for range 8 {
		all.Go(func() {
			for range 20 {
				a, r, err := block.Execute(j.l, j.parent, j.b)
				if err != api.OK || !sameAccounts(a, after) || !sameReceipts(r, receipts) {
					t.Errorf("P1703 Execute beside others: %s, %s, error %d", show(a), show(r), err)
				}
				b, a, err := block.Seal(j.l, j.parent, j.b)
				if err != api.OK || !sameAccounts(a, after) || !sameBlock(b, j.b) {
					t.Errorf("P1703 Seal beside others: %s, %s, error %d", show(b), show(a), err)
				}
				packed, _ := block.Pack(j.b)
				read, _ := block.Read(raw)
				if now, _ := block.ID(j.b); now != id || !bytes.Equal(packed, raw) || !sameBlock(read, j.b) {
					t.Errorf("P1703 bytes beside others: %s and %s, not %s", show(packed), show(read), show(raw))
				}
			}
		})
	}
	all.Wait()
}
