package snap_test

import (
	"slices"

	"quorum/api"
)

// A second, plainer way to the bytes of an image, and from bytes to an image: the chapter's list of fields, told once as a text, with a letter for each field.

// secondLayout is the chapter's list of fields: 4 is a U32, 1 a U8, n a Num; a list is its greatest count in brackets, with the fields of each element behind it; b a Blob of at most 512 bytes, d one of at most 256.
const secondLayout = "41nnnn[64]nnnn.[64]nnn.[64]n1nnn.n[32]nnnnnnn1nnnnb.[16]nnnnd."

// secondNumbers lays all that an image has down as one list of numbers and byte strings, in the order of the fields.
func secondNumbers(img api.Image) (list []any) {
	put := func(numbers ...uint64) {
		for _, n := range numbers {
			list = append(list, n)
		}
	}
	book := img.House.Book
	put(0x51534e50, 1, img.Slot, img.Now, book.Total, book.Next, uint64(len(book.Accounts)))
	for _, a := range book.Accounts {
		put(a.ID, a.Owner, a.Balance, a.Cap)
	}
	put(uint64(len(book.Holds)))
	for _, h := range book.Holds {
		put(h.ID, h.From, h.Amount)
	}
	put(uint64(len(book.Journal)))
	for _, e := range book.Journal {
		put(e.Seq, uint64(e.Kind), e.From, e.To, e.Amount)
	}
	put(img.House.Ends, uint64(len(img.House.Deals)))
	for _, d := range img.House.Deals {
		put(d.ID, d.Buyer, d.Seller, d.Arbiter, d.Amount, d.Opened, d.Due, uint64(d.Phase), d.Paid[0], d.Paid[1], d.Paid[2], d.End)
		list = append(list, []byte(d.Terms))
	}
	put(uint64(len(img.Sessions)))
	for _, s := range img.Sessions {
		put(s.Client, s.Seq, s.Stamp, uint64(s.Code))
		list = append(list, s.Data)
	}
	return list
}

// secondNum lays a number down, seven bits a byte.
func secondNum(v uint64) []byte {
	var b []byte
	for ; v > 127; v /= 128 {
		b = append(b, byte(v%128)+128)
	}
	return append(b, byte(v))
}

// secondWalk goes through the layout; visit is told each field's letter (# for a count, with its most), and tells how many elements a list has.
func secondWalk(visit func(field byte, most int) int) {
	for at := 0; at < len(secondLayout); at++ {
		if secondLayout[at] != '[' {
			visit(secondLayout[at], 0)
			continue
		}
		most := int(secondLayout[at+1]-'0')*10 + int(secondLayout[at+2]-'0')
		at += 4
		end := at
		for secondLayout[end] != '.' {
			end++
		}
		for range visit('#', most) {
			for _, field := range []byte(secondLayout[at:end]) {
				visit(field, 0)
			}
		}
		at = end
	}
}

// secondPack gives the bytes of a well-formed image.
func secondPack(img api.Image) []byte {
	list := secondNumbers(img)
	var b []byte
	secondWalk(func(field byte, _ int) int {
		x := list[0]
		list = list[1:]
		if raw, ok := x.([]byte); ok {
			b = slices.Concat(b, secondNum(uint64(len(raw))), raw)
			return 0
		}
		n := x.(uint64)
		switch field {
		case '4':
			b = append(b, byte(n>>24), byte(n>>16), byte(n>>8), byte(n))
		case '1':
			b = append(b, byte(n))
		default:
			b = append(b, secondNum(n)...)
		}
		return int(n)
	})
	return b
}

// verdict is what Unpack answers beside an image: the number at the end of the chain, the place, and whether layer 1's fault lies between.
type verdict struct {
	why  api.Errno
	at   int
	wire bool
}

// secondReader reads fields; from the first fault on it tells zeros.
type secondReader struct {
	b   []byte
	at  int
	bad verdict
}

func (r *secondReader) fail(why api.Errno, at int, wire bool) {
	if r.bad.why == api.OK {
		r.bad = verdict{why, at, wire}
	}
}

func (r *secondReader) fixed(size int) uint64 {
	if r.bad.why != api.OK {
		return 0
	}
	if len(r.b)-r.at < size {
		r.fail(api.ErrWireShort, r.at, true)
		return 0
	}
	var n uint64
	for range size {
		n = n<<8 | uint64(r.b[r.at])
		r.at++
	}
	return n
}

// num reads a number; one above most is ErrWireLong, and so many bytes as it tells must be there if it is a blob's.
func (r *secondReader) num(most uint64, blob bool) uint64 {
	if r.bad.why != api.OK {
		return 0
	}
	var n uint64
	for i := 0; ; i++ {
		if r.at+i >= len(r.b) {
			r.fail(api.ErrWireShort, r.at, true)
			return 0
		}
		c := r.b[r.at+i]
		if i == 9 && c > 1 || i > 0 && c == 0 {
			r.fail(api.ErrWireForm, r.at, true)
			return 0
		}
		n += uint64(c%128) << (7 * i)
		if c > 127 {
			continue
		}
		switch {
		case n > most:
			r.fail(api.ErrWireLong, r.at, true)
			return 0
		case blob && n > uint64(len(r.b)-r.at-i-1):
			r.fail(api.ErrWireShort, r.at, true)
			return 0
		}
		r.at += i + 1
		return n
	}
}

func (r *secondReader) blob(most uint64) []byte {
	n := int(r.num(most, true))
	if n == 0 {
		return nil
	}
	r.at += n
	return slices.Clone(r.b[r.at-n : r.at])
}

// secondUnpack reads an image by the chapter's words.
func secondUnpack(b []byte) (api.Image, verdict) {
	if len(b) > 40000 {
		return api.Image{}, verdict{api.ErrSnapLong, 0, false}
	}
	r := &secondReader{b: b}
	var list []any
	secondWalk(func(field byte, most int) int {
		var n uint64
		switch field {
		case '4':
			if n = r.fixed(4); n != 0x51534e50 {
				r.fail(api.ErrSnapForm, 0, false)
			}
		case '1':
			if n = r.fixed(1); len(list) == 1 && n != 1 {
				r.fail(api.ErrSnapForm, 4, false)
			}
		case 'n':
			n = r.num(1<<64-1, false)
		case '#':
			n = r.num(uint64(most), false)
		case 'b':
			list = append(list, r.blob(512))
			return 0
		case 'd':
			list = append(list, r.blob(256))
			return 0
		}
		list = append(list, n)
		return int(n)
	})
	if r.bad.why == api.OK && r.at < len(b) {
		r.fail(api.ErrWireTail, r.at, true)
	}
	if r.bad.why != api.OK {
		return api.Image{}, r.bad
	}
	img := secondImage(list)
	if part := secondWrong(img); part >= 0 {
		return api.Image{}, verdict{api.ErrSnapImage, part, false}
	}
	return img, verdict{}
}

// secondImage puts the fields into an image.
func secondImage(list []any) (img api.Image) {
	next := func() uint64 {
		n := list[0].(uint64)
		list = list[1:]
		return n
	}
	raw := func() []byte {
		b := list[0].([]byte)
		list = list[1:]
		return b
	}
	next()
	next()
	img.Slot, img.Now = next(), next()
	book := &img.House.Book
	book.Total, book.Next = next(), next()
	for range next() {
		book.Accounts = append(book.Accounts, api.Account{ID: next(), Owner: next(), Balance: next(), Cap: next()})
	}
	for range next() {
		book.Holds = append(book.Holds, api.Hold{ID: next(), From: next(), Amount: next()})
	}
	for range next() {
		book.Journal = append(book.Journal, api.Entry{Seq: next(), Kind: int(next()), From: next(), To: next(), Amount: next()})
	}
	img.House.Ends = next()
	for range next() {
		img.House.Deals = append(img.House.Deals, api.Deal{ID: next(), Buyer: next(), Seller: next(), Arbiter: next(), Amount: next(), Opened: next(), Due: next(), Phase: api.Phase(next()), Paid: [3]uint64{next(), next(), next()}, End: next(), Terms: string(raw())})
	}
	for range next() {
		img.Sessions = append(img.Sessions, api.Session{Client: next(), Seq: next(), Stamp: next(), Code: api.Errno(next()), Data: raw()})
	}
	return img
}

// secondWrong tells the first part that is not well formed, by the chapter's table; -1, if all are.
func secondWrong(img api.Image) int {
	wrong := [7]bool{img.Slot > 1<<40, img.Now > 1<<40}
	book := img.House.Book
	wrong[2] = len(book.Accounts) > 64
	for i, a := range book.Accounts {
		wrong[2] = wrong[2] || a.ID == 0 || i > 0 && book.Accounts[i-1].ID >= a.ID
	}
	wrong[3] = len(book.Holds) > 64
	for i, h := range book.Holds {
		wrong[3] = wrong[3] || h.ID == 0 || i > 0 && book.Holds[i-1].ID >= h.ID
	}
	wrong[4] = len(book.Journal) > 64
	for i, e := range book.Journal {
		wrong[4] = wrong[4] || i > 0 && book.Journal[i-1].Seq >= e.Seq || e.Kind < 1 || e.Kind > 5
	}
	wrong[5] = len(img.House.Deals) > 32
	for i, d := range img.House.Deals {
		wrong[5] = wrong[5] || d.ID == 0 || i > 0 && img.House.Deals[i-1].ID >= d.ID || d.Phase < 1 || d.Phase > 8 || len(d.Terms) > 512
	}
	wrong[6] = len(img.Sessions) > 16
	for i, s := range img.Sessions {
		wrong[6] = wrong[6] || s.Client == 0 || i > 0 && img.Sessions[i-1].Client >= s.Client || s.Code < 0 || s.Code > 1023 || len(s.Data) > 256
	}
	return slices.Index(wrong[:], true)
}
