package code

import (
	"quorum/api"
	"quorum/wire"
)

// version is the third byte of every packed program.
const version = 1

// Pack lays a program down as bytes (P4.7). With all its limits reached a program has fewer than api.MaxCodeBytes bytes, so the writer refuses none.
func Pack(p api.Program) ([]byte, error) {
	if err := Verify(p); err != nil {
		return nil, err
	}
	w := wire.NewWriter(api.MaxCodeBytes)
	w.U16(api.CodeMagic)
	w.U8(version)
	w.Count(len(p.Consts), api.MaxCodeConsts)
	for _, n := range p.Consts {
		w.Num(n)
	}
	w.Count(len(p.Slots), api.MaxCodeSlots)
	for _, kind := range p.Slots {
		w.U8(uint8(kind))
	}
	for _, at := range p.Entry {
		w.Num(uint64(at + 1))
	}
	w.Count(len(p.Ins), api.MaxCodeIns)
	for _, ins := range p.Ins {
		w.U8(uint8(ins.Op))
		if forms[ins.Op].arg != noArg {
			w.Num(uint64(ins.Arg))
		}
	}
	return w.Bytes()
}

// Unpack reads a packed program (P4.7).
func Unpack(b []byte) (api.Program, error) {
	if len(b) > api.MaxCodeBytes {
		return api.Program{}, refusal(api.MaxCodeBytes, api.ErrCodeLong)
	}
	p, err := unpacked(b)
	if err != nil {
		return api.Program{}, err
	}
	if err := Verify(p); err != nil {
		return api.Program{}, err
	}
	return p, nil
}

// fields reads a packed program field by field; at the first one that is refused it gives up, as Verify does.
type fields struct{ *wire.Reader }

// unpacked reads all the fields; what they say together is still to be verified.
func unpacked(b []byte) (p api.Program, err error) {
	defer func() {
		if f, is := recover().(*api.Fault); is {
			p, err = api.Program{}, f
		}
	}()
	f := fields{wire.NewReader(b)}
	f.head()
	for range f.count(api.MaxCodeConsts) {
		p.Consts = append(p.Consts, f.number())
	}
	for range f.count(api.MaxCodeSlots) {
		p.Slots = append(p.Slots, int(f.octet()))
	}
	for event := range p.Entry {
		p.Entry[event] = f.place(api.MaxCodeIns, api.ErrCodeEntry) - 1
	}
	for range f.count(api.MaxCodeIns) {
		p.Ins = append(p.Ins, f.instruction())
	}
	if err := f.End(); err != nil {
		panic(behind(err))
	}
	return p, nil
}

// sound gives up, if the field that was asked for last can't be read: the reader's fault tells where it begins.
func (f fields) sound() {
	if err := f.Err(); err != nil {
		panic(behind(err))
	}
}

func (f fields) octet() uint8 {
	n := f.U8()
	f.sound()
	return n
}

func (f fields) number() uint64 {
	n := f.Num()
	f.sound()
	return n
}

func (f fields) count(most int) int {
	n := f.Count(most)
	f.sound()
	return n
}

// place reads a number that is at most so great.
func (f fields) place(most uint64, why api.Errno) int {
	at := f.At()
	n := f.number()
	if n > most {
		giveUp(at, why)
	}
	return int(n)
}

func (f fields) head() {
	magic := f.U16()
	f.sound()
	if magic != api.CodeMagic {
		giveUp(0, api.ErrCodeMagic)
	}
	if f.octet() != version {
		giveUp(2, api.ErrCodeMagic)
	}
}

func (f fields) instruction() api.Ins {
	at := f.At()
	ins := api.Ins{Op: api.CodeOp(f.octet())}
	if !isOp(ins.Op) {
		giveUp(at, api.ErrCodeOp)
	}
	if forms[ins.Op].arg != noArg {
		ins.Arg = f.place(api.MaxCodeIns-1, api.ErrCodeArg)
	}
	return ins
}
