package snap_test

import (
	"errors"
	"reflect"
	"slices"
	"strings"
	"testing"

	"quorum/api"
	"quorum/snap"
)

const most = 1<<64 - 1

// isFault wants a fault of this layer with just that number and place.
func isFault(t *testing.T, what string, err error, why api.Errno, at int) {
	t.Helper()
	f, ok := err.(*api.Fault)
	if !ok || f == nil {
		t.Errorf("%s: %v is no fault, want %d at %d", what, err, why, at)
		return
	}
	if f.Layer != "snap" || f.At != at || f.Err != error(why) || !errors.Is(err, why) {
		t.Errorf("%s: refused with %v, want %d at %d", what, err, why, at)
	}
}

// isLower wants a fault of this layer, and behind it one of layer 1 with just that number, both at that place.
func isLower(t *testing.T, what string, err error, why api.Errno, at int) {
	t.Helper()
	f, ok := err.(*api.Fault)
	if !ok || f == nil || f.Layer != "snap" || f.At != at {
		t.Errorf("%s: %v, want a fault of snap at %d", what, err, at)
		return
	}
	g, ok := f.Err.(*api.Fault)
	if !ok || g == nil || g.Layer != "wire" || g.At != at || g.Err != error(why) || !errors.Is(err, why) {
		t.Errorf("%s: behind it %v, want %d of wire at %d", what, f.Err, why, at)
	}
	var outer *api.Fault
	if !errors.As(err, &outer) || outer != f {
		t.Errorf("%s: errors.As does not find the outer fault", what)
	}
}

// packed gives the bytes of an image that is in order.
func packed(t testing.TB, img api.Image) []byte {
	t.Helper()
	b, err := snap.Pack(img)
	if b == nil || err != nil {
		t.Fatalf("Pack(%v): %v", img, err)
	}
	return b
}

// small is an image with one of everything, each number another one.
func small() api.Image {
	return api.Image{
		Slot: 11, Now: 12,
		House: api.HouseImage{
			Book: api.LedgerImage{
				Total: 13, Next: 14,
				Accounts: []api.Account{{ID: 15, Owner: 16, Balance: 17, Cap: 18}},
				Holds:    []api.Hold{{ID: 19, From: 20, Amount: 21}},
				Journal:  []api.Entry{{Seq: 22, Kind: 3, From: 23, To: 24, Amount: 25}},
			},
			Deals: []api.Deal{{ID: 26, Buyer: 27, Seller: 28, Arbiter: 29, Amount: 30, Opened: 31, Due: 32, Phase: 4, Paid: [3]uint64{33, 34, 35}, End: 36, Terms: "on"}},
			Ends:  37,
		},
		Sessions: []api.Session{{Client: 38, Seq: 39, Stamp: 40, Code: 41, Data: []byte{42, 43}}},
	}
}

// full is the greatest image: every list as long as it may be, every number as great as it may be.
func full() api.Image {
	img := api.Image{Slot: api.MaxSlots, Now: api.MaxTick}
	img.House.Book.Total, img.House.Book.Next, img.House.Ends = most, most, most
	for i := range uint64(64) {
		up := most - 63 + i
		img.House.Book.Accounts = append(img.House.Book.Accounts, api.Account{ID: up, Owner: most, Balance: most, Cap: most})
		img.House.Book.Holds = append(img.House.Book.Holds, api.Hold{ID: up, From: most, Amount: most})
		img.House.Book.Journal = append(img.House.Book.Journal, api.Entry{Seq: up, Kind: 5, From: most, To: most, Amount: most})
	}
	for i := range uint64(32) {
		img.House.Deals = append(img.House.Deals, api.Deal{ID: most - 31 + i, Buyer: most, Seller: most, Arbiter: most, Amount: most, Opened: most, Due: most, Phase: 8, Paid: [3]uint64{most, most, most}, End: most, Terms: strings.Repeat("\xff", 512)})
	}
	for i := range uint64(16) {
		img.Sessions = append(img.Sessions, api.Session{Client: most - 15 + i, Seq: most, Stamp: most, Code: 1023, Data: slices.Repeat([]byte{200}, 256)})
	}
	return img
}

// twin gives an image of the same things that shares no memory with the first.
func twin(img api.Image) api.Image {
	book := &img.House.Book
	book.Accounts = slices.Clone(book.Accounts)
	book.Holds = slices.Clone(book.Holds)
	book.Journal = slices.Clone(book.Journal)
	img.House.Deals = slices.Clone(img.House.Deals)
	img.Sessions = slices.Clone(img.Sessions)
	for i := range img.Sessions {
		img.Sessions[i].Data = slices.Clone(img.Sessions[i].Data)
	}
	return img
}

// same tells whether two images are the same, nil being another thing than empty.
func same(a, b api.Image) bool { return reflect.DeepEqual(a, b) }

// dice gives numbers that look like any, the same ones in every run.
type dice struct{ state uint64 }

func (d *dice) next() uint64 {
	d.state = d.state*6364136223846793005 + 1442695040888963407
	return d.state ^ d.state>>29
}

// below gives a number from 0 to n-1.
func (d *dice) below(n int) int { return int(d.next() >> 3 % uint64(n)) }

// number gives small, great and middling numbers.
func (d *dice) number() uint64 {
	switch d.below(4) {
	case 0:
		return most
	case 1:
		return uint64(d.below(3))
	}
	return d.next() >> d.below(64)
}

func (d *dice) bytes(n int) []byte {
	var b []byte
	for range n {
		b = append(b, byte(d.next()>>11))
	}
	return b
}

// rising gives so many numbers, each above the one ahead of it.
func (d *dice) rising(n int) []uint64 {
	var list []uint64
	last := uint64(0)
	for range n {
		last += 1 + d.next()>>(8+d.below(56))
		list = append(list, last)
	}
	return list
}

// image gives an image that is well formed.
func (d *dice) image() api.Image {
	img := api.Image{Slot: d.number() % (api.MaxSlots + 1), Now: d.number() % (api.MaxTick + 1)}
	book := &img.House.Book
	book.Total, book.Next, img.House.Ends = d.number(), d.number(), d.number()
	for _, id := range d.rising(d.below(5)) {
		book.Accounts = append(book.Accounts, api.Account{ID: id, Owner: d.number(), Balance: d.number(), Cap: d.number()})
	}
	for _, id := range d.rising(d.below(5)) {
		book.Holds = append(book.Holds, api.Hold{ID: id, From: d.number(), Amount: d.number()})
	}
	for _, seq := range d.rising(d.below(5)) {
		book.Journal = append(book.Journal, api.Entry{Seq: seq - uint64(d.below(2)), Kind: 1 + d.below(5), From: d.number(), To: d.number(), Amount: d.number()})
	}
	for i := 1; i < len(book.Journal); i++ { // a line may have lost its one number above the line ahead
		book.Journal[i].Seq = max(book.Journal[i].Seq, book.Journal[i-1].Seq+1)
	}
	for _, id := range d.rising(d.below(4)) {
		img.House.Deals = append(img.House.Deals, api.Deal{ID: id, Buyer: d.number(), Seller: d.number(), Arbiter: d.number(), Amount: d.number(), Opened: d.number(), Due: d.number(), Phase: api.Phase(1 + d.below(8)), Paid: [3]uint64{d.number(), d.number(), d.number()}, End: d.number(), Terms: string(d.bytes(d.below(150)))})
	}
	for _, id := range d.rising(d.below(4)) {
		img.Sessions = append(img.Sessions, api.Session{Client: id, Seq: d.number(), Stamp: d.number(), Code: api.Errno(d.below(1024)), Data: d.bytes(d.below(150))})
	}
	return img
}
