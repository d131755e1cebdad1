package evm_test

import (
	"bytes"
	"maps"
	"math"
	"math/big"
	"slices"
	"strings"

	"muniments/api"
	"muniments/keccak"
	"muniments/ops"
	"muniments/rlp"
)

// The reference: what the chapter says, spelled out plainly. Words are numbers without limits, instructions are known by their names, and what may have to be restored is copied whole.

type refAccount struct {
	nonce   int
	balance *big.Int
	code    string
	slots   map[api.Word]api.Word
}

type refWorld struct {
	accounts map[api.Addr]refAccount
	context  api.Context
	unclear  bool // something was done of which the chapter's words leave open what it does
}

func newRefWorld(l []api.Account, c api.Context) *refWorld {
	w := &refWorld{accounts: map[api.Addr]refAccount{}, context: c}
	for _, a := range l {
		slots := map[api.Word]api.Word{}
		for _, s := range a.Slots {
			slots[s.Key] = s.Value
		}
		w.accounts[a.Addr] = refAccount{a.Nonce, number(a.Balance), string(a.Code), slots}
	}
	return w
}

// list is what state.Accounts returns.
func (w *refWorld) list() []api.Account {
	var l []api.Account
	for addr, a := range w.accounts {
		x := api.Account{Addr: addr, Nonce: a.nonce, Balance: word256(a.balanceOrZero()), Code: []byte(a.code)}
		for k, v := range a.slots {
			if v != (api.Word{}) {
				x.Slots = append(x.Slots, api.Slot{Key: k, Value: v})
			}
		}
		slices.SortFunc(x.Slots, func(a, b api.Slot) int { return bytes.Compare(a.Key[:], b.Key[:]) })
		if w.exists(addr) {
			l = append(l, x)
		}
	}
	slices.SortFunc(l, func(a, b api.Account) int { return bytes.Compare(a.Addr[:], b.Addr[:]) })
	return l
}

func (w *refWorld) copy() map[api.Addr]refAccount {
	c := map[api.Addr]refAccount{}
	for addr, a := range w.accounts {
		a.slots = maps.Clone(a.slots)
		c[addr] = a
	}
	return c
}

func (a refAccount) balanceOrZero() *big.Int {
	if a.balance == nil {
		return new(big.Int)
	}
	return a.balance
}

func (w *refWorld) balance(addr api.Addr) *big.Int { return w.accounts[addr].balanceOrZero() }

func (w *refWorld) exists(addr api.Addr) bool {
	a := w.accounts[addr]
	some := a.nonce != 0 || a.balanceOrZero().Sign() != 0 || a.code != ""
	for _, v := range a.slots {
		some = some || v != api.Word{}
	}
	return some
}

func (w *refWorld) change(addr api.Addr, f func(a *refAccount)) {
	a := w.accounts[addr]
	if a.slots == nil {
		a.slots = map[api.Word]api.Word{}
	}
	f(&a)
	w.accounts[addr] = a
}

func (w *refWorld) move(from, to api.Addr, n *big.Int) bool {
	left := new(big.Int).Sub(w.balance(from), n)
	sum := new(big.Int).Add(w.balance(to), n)
	if left.Sign() < 0 || from != to && sum.BitLen() > 256 {
		return false
	}
	if from != to {
		w.change(from, func(a *refAccount) { a.balance = left })
		w.change(to, func(a *refAccount) { a.balance = sum })
	}
	return true
}

// run is Run.
func (w *refWorld) run(m api.Message) api.Outcome {
	gas := m.Gas
	if gas < 0 {
		gas = 0
	}
	atOnce := func(err api.Errno) api.Outcome { return api.Outcome{Gas: gas, Err: err} }
	creates := m.Kind == 3 || m.Kind == 4
	switch {
	case m.Kind != 0 && m.Kind != 1 && m.Kind != 2 && !creates:
		return atOnce(api.ErrArg)
	case m.Depth > 64:
		return atOnce(api.ErrDepth)
	case (m.Kind == 0 || creates) && w.balance(m.From).Cmp(number(m.Value)) < 0:
		return atOnce(api.ErrFunds)
	case creates && w.accounts[m.From].nonce >= 1<<62:
		return atOnce(api.ErrNonce)
	}
	r := &refCode{world: w, self: m.To, caller: m.From, value: m.Value, data: m.Data, depth: m.Depth, static: m.Static, gas: gas}
	if creates {
		return w.create(m, r)
	}
	before := w.copy()
	r.code = []byte(w.accounts[m.To].code)
	switch m.Kind {
	case 0:
		if !w.move(m.From, m.To, number(m.Value)) {
			return atOnce(api.ErrFunds)
		}
	case 1:
		r.static, r.value = true, api.Word{}
	case 2:
		r.code = []byte(w.accounts[m.Code].code)
	}
	r.execute()
	return w.outcome(r, before)
}

func (w *refWorld) create(m api.Message, r *refCode) api.Outcome {
	nonce := w.accounts[m.From].nonce
	w.change(m.From, func(a *refAccount) { a.nonce++ })
	made := refAddress(m.From, nonce)
	if m.Kind == 4 {
		made = refAddress2(m.From, m.Salt, m.Data)
	}
	if w.accounts[made].nonce != 0 || w.accounts[made].code != "" {
		return api.Outcome{Err: api.ErrClash}
	}
	before := w.copy()
	w.change(made, func(a *refAccount) { a.nonce = 1 })
	if !w.move(m.From, made, number(m.Value)) {
		w.accounts = before
		return api.Outcome{Gas: r.gas, Err: api.ErrFunds}
	}
	r.self, r.code, r.data = made, m.Data, nil
	r.execute()
	if r.err == api.OK {
		switch {
		case len(r.out) > 24576:
			r.err = api.ErrLong
		case 200*len(r.out) > r.gas:
			r.err = api.ErrGas
		default:
			r.gas -= 200 * len(r.out)
			w.change(made, func(a *refAccount) { a.code = string(r.out) })
			r.out = nil
		}
	}
	o := w.outcome(r, before)
	if o.Err == api.OK {
		o.Addr = made
	}
	return o
}

func (w *refWorld) outcome(r *refCode, before map[api.Addr]refAccount) api.Outcome {
	if r.err == api.OK {
		return api.Outcome{Gas: r.gas, Out: r.out, Logs: r.logs}
	}
	w.accounts = before
	if r.err == api.ErrRevert {
		return api.Outcome{Gas: r.gas, Err: r.err, Out: r.out}
	}
	return api.Outcome{Err: r.err}
}

func refAddress(from api.Addr, nonce int) api.Addr {
	n := []byte{}
	if nonce > 0 {
		n = big.NewInt(int64(nonce)).Bytes()
	}
	b, _ := rlp.Pack(api.Item{IsList: true, List: []api.Item{{Bytes: from[:]}, {Bytes: n}}})
	h := keccak.Sum(b)
	return api.Addr(h[12:])
}

func refAddress2(from api.Addr, salt api.Word, data []byte) api.Addr {
	sum := keccak.Sum(data)
	h := keccak.Sum(slices.Concat([]byte{0xff}, from[:], salt[:], sum[:]))
	return api.Addr(h[12:])
}

// refCode is a code that is being executed.
type refCode struct {
	world        *refWorld
	self, caller api.Addr
	value        api.Word
	data, code   []byte
	depth        int
	static       bool
	gas          int
	memory       []byte
	stack        []*big.Int // what was pushed last stands last
	at, next     int
	returned     []byte
	logs         []api.Log
	out          []byte
	ended        bool
	err          api.Errno
}

func (r *refCode) execute() {
	for !r.ended && r.err == api.OK {
		r.err = r.step()
	}
}

func (r *refCode) step() api.Errno {
	op := byte(0)
	if r.next < len(r.code) {
		op = r.code[r.next]
	}
	r.at = r.next
	r.next++
	name := ops.Name(op)
	if name == "" {
		return api.ErrOp
	}
	pops := ops.Pops(op)
	if len(r.stack) < pops || len(r.stack)-pops+ops.Pushes(op) > 1024 {
		return api.ErrStack
	}
	in := slices.Clone(r.stack[len(r.stack)-pops:])
	slices.Reverse(in)
	if r.static && refForbidden(name, in) {
		return api.ErrStatic
	}
	growth, size, ok := r.growth(refAreas(name, in))
	if !ok || growth+ops.Gas(op)+r.price(name, in) > r.gas {
		return api.ErrGas
	}
	r.gas -= growth + ops.Gas(op) + r.price(name, in)
	r.memory = append(r.memory, make([]byte, size-len(r.memory))...)
	r.stack = r.stack[:len(r.stack)-pops]
	return r.do(name, in)
}

func refForbidden(name string, in []*big.Int) bool {
	switch name {
	case "SSTORE", "LOG0", "LOG1", "LOG2", "LOG3", "LOG4", "CREATE", "CREATE2", "SELFDESTRUCT":
		return true
	case "CALL":
		return in[2].Sign() != 0
	}
	return false
}

// refAreas is where the memory is used: index and number by turns.
func refAreas(name string, in []*big.Int) []*big.Int {
	switch name {
	case "KECCAK256", "LOG0", "LOG1", "LOG2", "LOG3", "LOG4", "RETURN", "REVERT":
		return []*big.Int{in[0], in[1]}
	case "CALLDATACOPY", "CODECOPY", "RETURNDATACOPY":
		return []*big.Int{in[0], in[2]}
	case "EXTCODECOPY":
		return []*big.Int{in[1], in[3]}
	case "MLOAD", "MSTORE":
		return []*big.Int{in[0], big.NewInt(32)}
	case "MSTORE8":
		return []*big.Int{in[0], big.NewInt(1)}
	case "CALL":
		return in[3:7]
	case "DELEGATECALL", "STATICCALL":
		return in[2:6]
	case "CREATE", "CREATE2":
		return in[1:3]
	}
	return nil
}

// growth is the gas for the memory with these areas, and its size with them.
func (r *refCode) growth(areas []*big.Int) (gas, size int, ok bool) {
	size = len(r.memory)
	for ; len(areas) > 0; areas = areas[2:] {
		if areas[1].Sign() == 0 {
			continue
		}
		end := new(big.Int).Add(areas[0], areas[1])
		if end.Cmp(big.NewInt(1<<20)) > 0 {
			return 0, 0, false
		}
		for size < int(end.Int64()) {
			size += 32
		}
	}
	cost := func(size int) int {
		words := size / 32
		return 3*words + words*words/512
	}
	return cost(size) - cost(len(r.memory)), size, true
}

// price is what an instruction costs beside the gas of its row and that for the memory. It is asked only where the memory can grow, so that a number of bytes is small.
func (r *refCode) price(name string, in []*big.Int) int {
	words := func(n *big.Int) int { return (int(n.Int64()) + 31) / 32 }
	switch name {
	case "EXP":
		return 50 * len(in[1].Bytes())
	case "KECCAK256":
		return 6 * words(in[1])
	case "CALLDATACOPY", "CODECOPY", "RETURNDATACOPY":
		return 3 * words(in[2])
	case "EXTCODECOPY":
		return 3 * words(in[3])
	case "CREATE2":
		return 6 * words(in[2])
	case "LOG0", "LOG1", "LOG2", "LOG3", "LOG4":
		return 8 * int(in[1].Int64())
	case "SSTORE":
		if r.slot(in[0]) == (api.Word{}) && in[1].Sign() != 0 {
			return 20000
		}
		return 5000
	case "CALL":
		if in[2].Sign() == 0 {
			return 0
		}
		if r.world.exists(refAddr(in[1])) {
			return 9000
		}
		return 34000
	}
	return 0
}

func (r *refCode) slot(key *big.Int) api.Word {
	return r.world.accounts[r.self].slots[word256(key)]
}

func (r *refCode) push(n *big.Int) { r.stack = append(r.stack, n) }

func (r *refCode) pushInt(n int) { r.push(number(word256(big.NewInt(int64(n))))) }

func (r *refCode) pushAddr(a api.Addr) { r.push(new(big.Int).SetBytes(a[:])) }

// do performs an instruction.
func (r *refCode) do(name string, in []*big.Int) api.Errno {
	letters := strings.TrimRight(name, "0123456789")
	digits := 0
	for _, d := range name[len(letters):] {
		digits = 10*digits + int(d-'0')
	}
	switch letters {
	case "PUSH":
		r.push(new(big.Int).SetBytes(refCut(r.code, big.NewInt(int64(r.next)), digits)))
		r.next += digits
	case "DUP":
		slices.Reverse(in)
		r.stack = append(append(r.stack, in...), in[0])
	case "SWAP":
		slices.Reverse(in)
		in[0], in[len(in)-1] = in[len(in)-1], in[0]
		r.stack = append(r.stack, in...)
	case "LOG":
		l := api.Log{Addr: r.self, Data: r.read(in[0], in[1])}
		for _, n := range in[2:] {
			l.Topics = append(l.Topics, word256(n))
		}
		r.logs = append(r.logs, l)
	default:
		if n := refCompute(name, in); n != nil {
			r.push(number(word256(n)))
			return api.OK
		}
		if r.ask(name, in) {
			return api.OK
		}
		return r.act(name, in)
	}
	return api.OK
}

// refCut is a piece of b, with zeros behind its end.
func refCut(b []byte, from *big.Int, n int) []byte {
	piece := make([]byte, n)
	for i := range piece {
		if from.IsInt64() && from.Int64() < int64(len(b)-i) {
			piece[i] = b[int(from.Int64())+i]
		}
	}
	return piece
}

// read is an area of the memory, which is large enough.
func (r *refCode) read(at, n *big.Int) []byte { return refCut(r.memory, at, int(n.Int64())) }

func (r *refCode) write(at *big.Int, b []byte) {
	if len(b) > 0 {
		copy(r.memory[at.Int64():], b)
	}
}

// refCompute is what an instruction pushes whose result hangs on its operands alone; nil for all others. It may be negative, or have more than 256 bits.
func refCompute(name string, in []*big.Int) *big.Int {
	n := new(big.Int)
	truth := func(is bool) *big.Int {
		if is {
			return n.SetInt64(1)
		}
		return n
	}
	two := func(f func(x, y *big.Int) *big.Int, by *big.Int) *big.Int {
		if by.Sign() == 0 {
			return n
		}
		return f(in[0], in[1])
	}
	switch name {
	case "ADD":
		return n.Add(in[0], in[1])
	case "MUL":
		return n.Mul(in[0], in[1])
	case "SUB":
		return n.Sub(in[0], in[1])
	case "DIV":
		return two(n.Quo, in[1])
	case "MOD":
		return two(n.Rem, in[1])
	case "SDIV":
		return two(func(x, y *big.Int) *big.Int { return n.Quo(refSigned(x), refSigned(y)) }, in[1])
	case "SMOD":
		return two(func(x, y *big.Int) *big.Int { return n.Rem(refSigned(x), refSigned(y)) }, in[1])
	case "ADDMOD":
		return two(func(x, y *big.Int) *big.Int { return n.Rem(n.Add(x, y), in[2]) }, in[2])
	case "MULMOD":
		return two(func(x, y *big.Int) *big.Int { return n.Rem(n.Mul(x, y), in[2]) }, in[2])
	case "EXP":
		return n.Exp(in[0], in[1], new(big.Int).Lsh(big.NewInt(1), 256))
	case "LT":
		return truth(in[0].Cmp(in[1]) < 0)
	case "GT":
		return truth(in[0].Cmp(in[1]) > 0)
	case "SLT":
		return truth(refSigned(in[0]).Cmp(refSigned(in[1])) < 0)
	case "SGT":
		return truth(refSigned(in[0]).Cmp(refSigned(in[1])) > 0)
	case "EQ":
		return truth(in[0].Cmp(in[1]) == 0)
	case "ISZERO":
		return truth(in[0].Sign() == 0)
	case "AND":
		return n.And(in[0], in[1])
	case "OR":
		return n.Or(in[0], in[1])
	case "XOR":
		return n.Xor(in[0], in[1])
	case "NOT":
		return n.Not(in[0])
	}
	return refShift(name, in)
}

// refShift is refCompute for the instructions whose first operand is a number of bytes or bits.
func refShift(name string, in []*big.Int) *big.Int {
	n := new(big.Int)
	if len(in) != 2 {
		return nil
	}
	k := uint(1 << 10) // more than any word has
	if in[0].IsInt64() && in[0].Int64() < 1<<10 {
		k = uint(in[0].Int64())
	}
	switch name {
	case "SIGNEXTEND":
		if k > 30 {
			return in[1]
		}
		high := new(big.Int).Lsh(big.NewInt(1), 8*k+8)
		n.Rem(in[1], high)
		if n.Bit(int(8*k+7)) == 1 {
			n.Sub(n, high)
		}
		return n
	case "BYTE":
		if k > 31 {
			return n
		}
		return n.And(n.Rsh(in[1], 8*(31-k)), big.NewInt(255))
	case "SHL":
		return n.Lsh(in[1], k)
	case "SHR":
		return n.Rsh(in[1], k)
	case "SAR":
		return n.Rsh(refSigned(in[1]), k)
	}
	return nil
}

func refSigned(n *big.Int) *big.Int {
	if n.Bit(255) == 0 {
		return n
	}
	return new(big.Int).Sub(n, new(big.Int).Lsh(big.NewInt(1), 256))
}

// ask performs an instruction that pushes something of what the code can see, and reports whether name is one.
func (r *refCode) ask(name string, in []*big.Int) bool {
	w := r.world
	switch name {
	case "KECCAK256":
		r.push(number(keccak.Sum(r.read(in[0], in[1]))))
	case "ADDRESS":
		r.pushAddr(r.self)
	case "BALANCE":
		r.push(w.balance(refAddr(in[0])))
	case "SELFBALANCE":
		r.push(w.balance(r.self))
	case "ORIGIN":
		r.pushAddr(w.context.Origin)
	case "COINBASE":
		r.pushAddr(w.context.Coinbase)
	case "TIMESTAMP":
		r.pushInt(w.context.Time)
	case "NUMBER":
		r.pushInt(w.context.Number)
	case "GASLIMIT":
		r.pushInt(w.context.GasLimit)
	case "CHAINID":
		r.pushInt(338)
	case "CALLER":
		r.pushAddr(r.caller)
	case "CALLVALUE":
		r.push(number(r.value))
	case "CALLDATALOAD":
		r.push(new(big.Int).SetBytes(refCut(r.data, in[0], 32)))
	case "CALLDATASIZE":
		r.pushInt(len(r.data))
	case "CODESIZE":
		r.pushInt(len(r.code))
	case "RETURNDATASIZE":
		r.pushInt(len(r.returned))
	case "EXTCODESIZE":
		r.pushInt(len(w.accounts[refAddr(in[0])].code))
	case "EXTCODEHASH":
		a := refAddr(in[0])
		if !w.exists(a) {
			r.pushInt(0)
			break
		}
		r.push(number(keccak.Sum([]byte(w.accounts[a].code))))
	case "PC":
		r.pushInt(r.at)
	case "MSIZE":
		r.pushInt(len(r.memory))
	case "GAS":
		r.pushInt(r.gas)
	case "MLOAD":
		r.push(new(big.Int).SetBytes(r.read(in[0], big.NewInt(32))))
	case "SLOAD":
		r.push(number(r.slot(in[0])))
	default:
		return false
	}
	return true
}

// act performs an instruction that does something else than to push.
func (r *refCode) act(name string, in []*big.Int) api.Errno {
	w := r.world
	switch name {
	case "CALLDATACOPY":
		r.write(in[0], refCut(r.data, in[1], int(in[2].Int64())))
	case "CODECOPY":
		r.write(in[0], refCut(r.code, in[1], int(in[2].Int64())))
	case "EXTCODECOPY":
		code := []byte(w.accounts[refAddr(in[0])].code)
		r.write(in[1], refCut(code, in[2], int(in[3].Int64())))
	case "RETURNDATACOPY":
		end := new(big.Int).Add(in[1], in[2])
		if end.Cmp(big.NewInt(int64(len(r.returned)))) > 0 {
			w.unclear = w.unclear || in[2].Sign() == 0
			return api.ErrData
		}
		r.write(in[0], refCut(r.returned, in[1], int(in[2].Int64())))
	case "POP", "JUMPDEST":
	case "MSTORE":
		value := word256(in[1])
		r.write(in[0], value[:])
	case "MSTORE8":
		value := word256(in[1])
		r.write(in[0], value[31:])
	case "SSTORE":
		w.change(r.self, func(a *refAccount) { a.slots[word256(in[0])] = word256(in[1]) })
	case "JUMP":
		return r.jump(in[0])
	case "JUMPI":
		if in[1].Sign() != 0 {
			return r.jump(in[0])
		}
	case "SELFDESTRUCT":
		if to := refAddr(in[0]); to != r.self {
			w.move(r.self, to, w.balance(r.self))
		}
		delete(w.accounts, r.self)
		r.ended = true
	case "STOP":
		r.ended = true
	case "RETURN":
		r.out = r.read(in[0], in[1])
		r.ended = true
	case "REVERT":
		r.out = r.read(in[0], in[1])
		return api.ErrRevert
	default:
		r.send(name, in)
	}
	return api.OK
}

// jump looks at each byte from the first one on, to see which ones are instructions.
func (r *refCode) jump(to *big.Int) api.Errno {
	for i := 0; i < len(r.code); i++ {
		op := r.code[i]
		if op == 0x5b && to.Cmp(big.NewInt(int64(i))) == 0 {
			r.next = i
			return api.OK
		}
		if op >= 0x60 && op <= 0x7f {
			i += int(op) - 0x5f
		}
	}
	return api.ErrJump
}

// send performs the instructions that execute messages.
func (r *refCode) send(name string, in []*big.Int) {
	m := api.Message{From: r.self, Depth: r.depth + 1, Static: r.static}
	share := r.gas - r.gas/64
	unpaid := 0
	var area []*big.Int
	switch name {
	case "CALL":
		m.Kind, m.To, m.Value = 0, refAddr(in[1]), word256(in[2])
		m.Data = r.read(in[3], in[4])
		area = in[5:]
		if in[2].Sign() != 0 {
			unpaid = 2300
		}
	case "STATICCALL":
		m.Kind, m.To = 1, refAddr(in[1])
		m.Data = r.read(in[2], in[3])
		area = in[4:]
	case "DELEGATECALL":
		m.Kind, m.From, m.To, m.Code, m.Value = 2, r.caller, r.self, refAddr(in[1]), r.value
		m.Data = r.read(in[2], in[3])
		area = in[4:]
	case "CREATE":
		m.Kind, m.Value, m.Data = 3, word256(in[0]), r.read(in[1], in[2])
	case "CREATE2":
		m.Kind, m.Value, m.Data, m.Salt = 4, word256(in[0]), r.read(in[1], in[2]), word256(in[3])
	}
	if area != nil && in[0].Cmp(big.NewInt(int64(share))) < 0 {
		share = int(in[0].Int64())
	}
	r.gas -= share
	m.Gas = share + unpaid
	o := r.world.run(m)
	r.gas += o.Gas
	r.logs = append(r.logs, o.Logs...)
	r.returned = nil
	if o.Err == api.ErrRevert || o.Err == api.OK && area != nil {
		r.returned = o.Out
	}
	switch {
	case area == nil:
		r.pushAddr(o.Addr)
		return
	case o.Err == api.OK:
		r.pushInt(1)
	default:
		r.pushInt(0)
	}
	n := len(r.returned)
	if area[1].Cmp(big.NewInt(int64(n))) < 0 {
		n = int(area[1].Int64())
	}
	r.write(area[0], r.returned[:n])
}

func refAddr(n *big.Int) api.Addr {
	w := word256(n)
	return api.Addr(w[12:])
}

func number(w api.Word) *big.Int { return new(big.Int).SetBytes(w[:]) }

// word256 is n modulo 2^256.
func word256(n *big.Int) api.Word {
	high := new(big.Int).Lsh(big.NewInt(1), 256)
	return api.Word(new(big.Int).Mod(n, high).FillBytes(make([]byte, 32)))
}

// of is the word of n, in two's complement.
func of(n int) api.Word { return word256(big.NewInt(int64(n))) }

// power is the word of 2^n + plus.
func power(n uint, plus int64) api.Word {
	return word256(new(big.Int).Add(new(big.Int).Lsh(big.NewInt(1), n), big.NewInt(plus)))
}

const plenty = math.MaxInt32
