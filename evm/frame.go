package evm

import (
	"strconv"

	"muniments/api"
	"muniments/gas"
	"muniments/mem"
	"muniments/ops"
	"muniments/state"
	"muniments/word"
)

// codeByteGas is the gas for each byte of the code of a new account.
const codeByteGas = 200

// frame is a code that is being executed.
type frame struct {
	*machine
	self, caller api.Addr // self is the account whose storage is used
	value        api.Word
	data, code   []byte
	depth        int
	static       bool
	creates      bool // what the code returns becomes the code of self

	gas      int // what is left
	memory   mem.Mem
	stack    mem.Stack
	jumps    []int  // ops.Jumps of the code, once it has jumped
	returned []byte // by the last message
	logs     []api.Log

	op       byte // the instruction that is being done
	at, next int  // its index, and that of the next one
	ended    bool
	out      []byte // what the code returned
}

// begin returns the start of a code for m.
func (v *machine) begin(m api.Message) *frame {
	return &frame{machine: v, self: m.To, caller: m.From, value: m.Value, data: m.Data, depth: m.Depth, static: m.Static, gas: m.Gas}
}

// failure is the error with which a code ends. It goes up as a panic from where it is noticed.
type failure struct{ errno api.Errno }

func (e failure) Error() string {
	return "the code ends with error " + strconv.Itoa(int(e.errno))
}

func fail(errno api.Errno) {
	panic(failure{errno})
}

// run executes the code and returns the error with which it ends.
func (f *frame) run() (errno api.Errno) {
	defer func() {
		if e := recover(); e != nil {
			errno = e.(failure).errno // nothing else panics
		}
	}()
	for !f.ended {
		f.step()
	}
	if f.creates {
		f.deploy()
	}
	return api.OK
}

// deploy makes what the code returned the code of the new account.
func (f *frame) deploy() {
	code := f.out
	if len(code) > api.MaxCode {
		fail(api.ErrLong)
	}
	f.pay(codeByteGas * len(code))
	f.change(func(s *state.State) { s.SetCode(f.self, code) })
	f.out = nil
}

// step does the next instruction.
func (f *frame) step() {
	f.fetch()
	i := f.table[f.op]
	if i.do == nil {
		fail(api.ErrOp)
	}
	in := f.operands()
	if f.static && f.forbidden(in) {
		fail(api.ErrStatic)
	}
	price := ops.Gas(f.op)
	if i.price != nil {
		price += i.price(f, in)
	}
	f.pay(price)
	i.do(f, in)
}

// fetch goes on to the next instruction. Behind the end of the code stands a STOP.
func (f *frame) fetch() {
	f.at, f.op = f.next, stop
	if f.at < len(f.code) {
		f.op = f.code[f.at]
	}
	f.next++
}

// operands takes the operands off the stack, the one that was pushed last first. DUP and SWAP leave the stack to be changed in its place.
func (f *frame) operands() []api.Word {
	pops := ops.Pops(f.op)
	rest := f.stack.Len() - pops
	if rest < 0 || rest+ops.Pushes(f.op) > api.MaxStack {
		fail(api.ErrStack)
	}
	if dup1 <= f.op && f.op <= swap16 {
		return nil
	}
	in, _ := f.stack.Pop(pops)
	return in
}

// forbidden reports whether the instruction, with these operands, is none for a static code.
func (f *frame) forbidden(in []api.Word) bool {
	switch f.op {
	case sstore, log0, log1, log2, log3, log4, create, create2, selfdestruct:
		return true
	case call:
		return in[2] != api.Word{}
	}
	return false
}

// pay takes n off the gas that is left.
func (f *frame) pay(n int) {
	if n > f.gas {
		fail(api.ErrGas)
	}
	f.gas -= n
}

// push puts w on the stack, which has room for what an instruction pushes.
func (f *frame) push(w api.Word) {
	f.stack.Push(w)
}

// pushIf pushes 1 if ok is true, and 0 otherwise.
func (f *frame) pushIf(ok bool) {
	if ok {
		f.push(word.Of(1))
		return
	}
	f.push(api.Word{})
}

// grow lets the memory grow for n bytes from the index at on, and returns the gas for that.
func (f *frame) grow(at, n api.Word) int {
	price, ok := f.memory.Grow(at, n)
	if !ok {
		fail(api.ErrGas)
	}
	return price
}

// growWords is grow, for an instruction that costs so much for each word of the area in addition.
func (f *frame) growWords(at, n api.Word, wordGas int) int {
	return f.grow(at, n) + wordGas*gas.Words(small(n))
}

// read returns n bytes of memory from the index at on. The memory has grown for them.
func (f *frame) read(at, n api.Word) []byte {
	return f.memory.Get(small(at), small(n))
}

// write writes b into the memory from the index at on. The memory has grown for it.
func (f *frame) write(at api.Word, b []byte) {
	f.memory.Put(small(at), b)
}

// small returns the number of w, which tells of an area of the memory. Where it is no int, no memory grows for it: the area has no bytes, and any place will do.
func small(w api.Word) int {
	n, _ := word.Int(w)
	return n
}
