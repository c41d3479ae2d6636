package snap_test

import (
	"bytes"
	"slices"
	"strings"
	"sync"
	"testing"

	"quorum/api"
	"quorum/deal"
	"quorum/snap"
)

// smallBytes are those of small, by hand.
var smallBytes = []byte{
	0x51, 0x53, 0x4e, 0x50, 1,
	11, 12, 13, 14,
	1, 15, 16, 17, 18,
	1, 19, 20, 21,
	1, 22, 3, 23, 24, 25,
	37,
	1, 26, 27, 28, 29, 30, 31, 32, 4, 33, 34, 35, 36, 2, 'o', 'n',
	1, 38, 39, 40, 41, 2, 42, 43,
}

func TestP6_2ByHand(t *testing.T) {
	if b := packed(t, small()); !bytes.Equal(b, smallBytes) {
		t.Errorf("Pack: % x\nwant  % x", b, smallBytes)
	}
}

func TestP6_2LikeTheSecond(t *testing.T) {
	d := &dice{11}
	for run := range 2000 {
		img := d.image()
		if b := packed(t, img); !bytes.Equal(b, secondPack(img)) {
			t.Fatalf("run %d: %v\nPack % x\nwant % x", run, img, b, secondPack(img))
		}
	}
}

func TestP6_2TheGreatest(t *testing.T) {
	b := packed(t, full())
	if !bytes.Equal(b, secondPack(full())) {
		t.Error("the greatest image has other bytes")
	}
	if len(b) > api.MaxSnap {
		t.Errorf("the greatest image has %d bytes", len(b))
	}
}

// spoil is one way in which a part is not well formed. From an image with one of everything.
type spoil struct {
	what string
	part int
	turn func(*api.Image)
}

func spoils() []spoil {
	return []spoil{
		{"Slot one too great", 0, func(m *api.Image) { m.Slot = api.MaxSlots + 1 }},
		{"the greatest Slot", 0, func(m *api.Image) { m.Slot = most }},
		{"Now one too great", 1, func(m *api.Image) { m.Now = api.MaxTick + 1 }},
		{"the greatest Now", 1, func(m *api.Image) { m.Now = most }},
		{"an account 0", 2, func(m *api.Image) { m.House.Book.Accounts[0].ID = 0 }},
		{"an account twice", 2, func(m *api.Image) { twice(&m.House.Book.Accounts) }},
		{"an account below the one ahead", 2, func(m *api.Image) {
			m.House.Book.Accounts = append(m.House.Book.Accounts, api.Account{ID: 14})
		}},
		{"an account 0 behind another", 2, func(m *api.Image) {
			m.House.Book.Accounts = append(m.House.Book.Accounts, api.Account{})
		}},
		{"too many accounts", 2, func(m *api.Image) { m.House.Book.Accounts = manyAccounts(65) }},
		{"a hold 0", 3, func(m *api.Image) { m.House.Book.Holds[0].ID = 0 }},
		{"a hold twice", 3, func(m *api.Image) { twice(&m.House.Book.Holds) }},
		{"a hold below the one ahead", 3, func(m *api.Image) { m.House.Book.Holds = append(m.House.Book.Holds, api.Hold{ID: 18}) }},
		{"too many holds", 3, func(m *api.Image) { m.House.Book.Holds = manyHolds(65) }},
		{"a line twice", 4, func(m *api.Image) { twice(&m.House.Book.Journal) }},
		{"a line below the one ahead", 4, func(m *api.Image) {
			m.House.Book.Journal = append(m.House.Book.Journal, api.Entry{Seq: 21, Kind: 1})
		}},
		{"a line 0 behind another", 4, func(m *api.Image) { m.House.Book.Journal = append(m.House.Book.Journal, api.Entry{Kind: 1}) }},
		{"a line 0 twice", 4, func(m *api.Image) { m.House.Book.Journal = []api.Entry{{Kind: 1}, {Kind: 1}} }},
		{"a line of kind 0", 4, func(m *api.Image) { m.House.Book.Journal[0].Kind = 0 }},
		{"a line of kind 6", 4, func(m *api.Image) { m.House.Book.Journal[0].Kind = 6 }},
		{"a line of kind -1", 4, func(m *api.Image) { m.House.Book.Journal[0].Kind = -1 }},
		{"a line of kind 257", 4, func(m *api.Image) { m.House.Book.Journal[0].Kind = 257 }},
		{"too many lines", 4, func(m *api.Image) { m.House.Book.Journal = manyLines(65) }},
		{"a deal 0", 5, func(m *api.Image) { m.House.Deals[0].ID = 0 }},
		{"a deal twice", 5, func(m *api.Image) { twice(&m.House.Deals) }},
		{"a deal below the one ahead", 5, func(m *api.Image) {
			m.House.Deals = append(m.House.Deals, api.Deal{ID: 25, Phase: 1})
		}},
		{"a deal in phase 0", 5, func(m *api.Image) { m.House.Deals[0].Phase = 0 }},
		{"a deal in phase 9", 5, func(m *api.Image) { m.House.Deals[0].Phase = 9 }},
		{"a deal in phase -1", 5, func(m *api.Image) { m.House.Deals[0].Phase = -1 }},
		{"a deal in phase 257", 5, func(m *api.Image) { m.House.Deals[0].Phase = 257 }},
		{"terms one too long", 5, func(m *api.Image) { m.House.Deals[0].Terms = strings.Repeat("x", 513) }},
		{"terms far too long", 5, func(m *api.Image) { m.House.Deals[0].Terms = strings.Repeat("x", 50000) }},
		{"too many deals", 5, func(m *api.Image) { m.House.Deals = manyDeals(33) }},
		{"a client 0", 6, func(m *api.Image) { m.Sessions[0].Client = 0 }},
		{"a client twice", 6, func(m *api.Image) { twice(&m.Sessions) }},
		{"a client below the one ahead", 6, func(m *api.Image) { m.Sessions = append(m.Sessions, api.Session{Client: 37}) }},
		{"a code one too great", 6, func(m *api.Image) { m.Sessions[0].Code = 1024 }},
		{"a code below 0", 6, func(m *api.Image) { m.Sessions[0].Code = -1 }},
		{"the least code", 6, func(m *api.Image) { m.Sessions[0].Code = -1 << 63 }},
		{"the greatest code", 6, func(m *api.Image) { m.Sessions[0].Code = 1<<63 - 1 }},
		{"data one too long", 6, func(m *api.Image) { m.Sessions[0].Data = make([]byte, 257) }},
		{"too many clients", 6, func(m *api.Image) { m.Sessions = manySessions(17) }},
	}
}

func twice[T any](list *[]T) { *list = append(*list, (*list)[0]) }

func manyAccounts(n int) (list []api.Account) {
	for i := range n {
		list = append(list, api.Account{ID: uint64(i + 1)})
	}
	return list
}

func manyHolds(n int) (list []api.Hold) {
	for i := range n {
		list = append(list, api.Hold{ID: uint64(i + 1)})
	}
	return list
}

func manyLines(n int) (list []api.Entry) {
	for i := range n {
		list = append(list, api.Entry{Seq: uint64(i), Kind: 1})
	}
	return list
}

func manyDeals(n int) (list []api.Deal) {
	for i := range n {
		list = append(list, api.Deal{ID: uint64(i + 1), Phase: 1})
	}
	return list
}

func manySessions(n int) (list []api.Session) {
	for i := range n {
		list = append(list, api.Session{Client: uint64(i + 1)})
	}
	return list
}

// Each part alone, and with every way in which a later one is wrong.
func TestP6_2NotWellFormed(t *testing.T) {
	for _, first := range spoils() {
		for _, later := range spoils() {
			if later.part < first.part || later.part == first.part && later.what != first.what {
				continue
			}
			img := small()
			first.turn(&img)
			if later.part > first.part {
				later.turn(&img)
			}
			b, err := snap.Pack(img)
			isFault(t, first.what+", "+later.what, err, api.ErrSnapImage, first.part)
			if b != nil {
				t.Errorf("%s: %d bytes beside the refusal", first.what, len(b))
			}
		}
	}
}

// What is just within the table.
func TestP6_2JustWellFormed(t *testing.T) {
	for what, turn := range map[string]func(*api.Image){
		"the greatest slot":     func(m *api.Image) { m.Slot = api.MaxSlots },
		"the greatest time":     func(m *api.Image) { m.Now = api.MaxTick },
		"64 accounts":           func(m *api.Image) { m.House.Book.Accounts = manyAccounts(64) },
		"64 holds":              func(m *api.Image) { m.House.Book.Holds = manyHolds(64) },
		"64 lines":              func(m *api.Image) { m.House.Book.Journal = manyLines(64) },
		"a first line 0":        func(m *api.Image) { m.House.Book.Journal[0].Seq = 0 },
		"a line of kind 1":      func(m *api.Image) { m.House.Book.Journal[0].Kind = 1 },
		"a line of kind 5":      func(m *api.Image) { m.House.Book.Journal[0].Kind = 5 },
		"lines with gaps":       func(m *api.Image) { m.House.Book.Journal = []api.Entry{{Seq: 3, Kind: 1}, {Seq: most, Kind: 2}} },
		"32 deals":              func(m *api.Image) { m.House.Deals = manyDeals(32) },
		"a deal in phase 1":     func(m *api.Image) { m.House.Deals[0].Phase = 1 },
		"a deal in phase 8":     func(m *api.Image) { m.House.Deals[0].Phase = 8 },
		"no terms":              func(m *api.Image) { m.House.Deals[0].Terms = "" },
		"the longest terms":     func(m *api.Image) { m.House.Deals[0].Terms = strings.Repeat("x", 512) },
		"terms of any bytes":    func(m *api.Image) { m.House.Deals[0].Terms = "\xff\x00\xc3\xed\xa0\x80" },
		"16 clients":            func(m *api.Image) { m.Sessions = manySessions(16) },
		"a client that is none": func(m *api.Image) { m.Sessions[0].Client = 1 },
		"code 0":                func(m *api.Image) { m.Sessions[0].Code = 0 },
		"the greatest code":     func(m *api.Image) { m.Sessions[0].Code = 1023 },
		"the longest data":      func(m *api.Image) { m.Sessions[0].Data = make([]byte, 256) },
		"no data":               func(m *api.Image) { m.Sessions[0].Data = nil },
		"sums that are wrong":   func(m *api.Image) { m.House.Book.Total, m.House.Book.Next = 0, 0 },
		"parties of no account": func(m *api.Image) { m.House.Deals[0].Buyer, m.House.Deals[0].Amount = 0, 0 },
	} {
		img := small()
		turn(&img)
		b := packed(t, img)
		if !bytes.Equal(b, secondPack(img)) {
			t.Errorf("%s: % x", what, b)
		}
		if got, err := snap.Unpack(b); err != nil || !same(got, img) {
			t.Errorf("%s: read back %v, %v", what, got, err)
		}
	}
}

func TestP6_2EmptyIsNil(t *testing.T) {
	empty := api.Image{Sessions: []api.Session{}}
	empty.House.Deals = []api.Deal{}
	empty.House.Book = api.LedgerImage{Accounts: []api.Account{}, Holds: []api.Hold{}, Journal: []api.Entry{}}
	if !bytes.Equal(packed(t, empty), packed(t, api.Image{})) {
		t.Error("empty lists have other bytes than none")
	}
	img := small()
	img.Sessions[0].Data = []byte{}
	b := packed(t, img)
	img.Sessions[0].Data = nil
	if !bytes.Equal(packed(t, img), b) {
		t.Error("empty data has other bytes than none")
	}
}

func TestP6_2NothingKeptOrChanged(t *testing.T) {
	img := small()
	one := packed(t, img)
	if !same(img, small()) {
		t.Error("the image has changed")
	}
	clear(one[:cap(one)])
	two := packed(t, img)
	img.Sessions[0].Data[0] = 99
	if !bytes.Equal(two, smallBytes) {
		t.Error("two answers share memory, or one with the image")
	}
}

// reads wants of Unpack just what is told: an image, or a refusal and nothing else.
func reads(t *testing.T, what string, b []byte, img api.Image, v verdict) {
	t.Helper()
	got, err := snap.Unpack(b)
	if !same(got, img) {
		t.Errorf("%s: % x\nread as %v\nwant    %v", what, b, got, img)
	}
	switch {
	case v.why == api.OK && err != nil:
		t.Errorf("%s: % x\nrefused with %v", what, b, err)
	case v.why == api.OK:
	case v.wire:
		isLower(t, what, err, v.why, v.at)
	default:
		isFault(t, what, err, v.why, v.at)
	}
}

func TestP6_3ByHand(t *testing.T) {
	reads(t, "the small one", smallBytes, small(), verdict{})
	reads(t, "nothing", append([]byte{0x51, 0x53, 0x4e, 0x50, 1}, make([]byte, 10)...), api.Image{}, verdict{})
	reads(t, "the greatest", secondPack(full()), full(), verdict{})
}

func TestP6_3TooLong(t *testing.T) {
	long := verdict{api.ErrSnapLong, 0, false}
	for _, n := range []int{40001, 40002, 70000, 1 << 20} {
		reads(t, "too long", make([]byte, n), api.Image{}, long)
		b := append(bytes.Clone(smallBytes), make([]byte, n)...)[:n]
		reads(t, "too long, begun well", b, api.Image{}, long)
	}
	reads(t, "40000 bytes", make([]byte, 40000), api.Image{}, verdict{api.ErrSnapForm, 0, false})
	b := append(bytes.Clone(smallBytes), make([]byte, 40000)...)[:40000]
	reads(t, "40000 bytes, begun well", b, api.Image{}, verdict{api.ErrWireTail, len(smallBytes), true})
}

func TestP6_3Head(t *testing.T) {
	head := []byte{0x51, 0x53, 0x4e, 0x50, 1}
	for n := range 4 {
		reads(t, "cut in the first field", head[:n], api.Image{}, verdict{api.ErrWireShort, 0, true})
		reads(t, "cut in another first field", make([]byte, n), api.Image{}, verdict{api.ErrWireShort, 0, true})
	}
	reads(t, "no second field", head[:4], api.Image{}, verdict{api.ErrWireShort, 4, true})
	for bit := range 32 { // ahead of all that is wrong behind it
		b := bytes.Clone(smallBytes)
		b[bit/8] ^= 1 << (bit % 8)
		form := verdict{api.ErrSnapForm, 0, false}
		reads(t, "another first field", b, api.Image{}, form)
		reads(t, "another first field alone", b[:4], api.Image{}, form)
		b[4] = 2
		reads(t, "two other fields", b, api.Image{}, form)
	}
	for v := range 256 {
		if v == 1 {
			continue
		}
		b := bytes.Clone(smallBytes)
		b[4] = byte(v)
		form := verdict{api.ErrSnapForm, 4, false}
		reads(t, "another second field", b, api.Image{}, form)
		reads(t, "another second field at the end", b[:5], api.Image{}, form)
		reads(t, "another second field, and a tail", append(b, 0), api.Image{}, form)
	}
}

func TestP6_3EveryCut(t *testing.T) {
	greatest := secondPack(full())
	for n := range smallBytes {
		_, v := secondUnpack(smallBytes[:n])
		if v.why != api.ErrWireShort {
			t.Fatalf("the second reader takes %d bytes", n)
		}
		reads(t, "cut", smallBytes[:n], api.Image{}, v)
	}
	for n := 0; n < len(greatest); n += 11 {
		_, v := secondUnpack(greatest[:n])
		reads(t, "cut", greatest[:n], api.Image{}, v)
	}
	for _, tail := range [][]byte{{0}, {1}, {0xff}, smallBytes} {
		b := append(bytes.Clone(smallBytes), tail...)
		reads(t, "with a tail", b, api.Image{}, verdict{api.ErrWireTail, len(smallBytes), true})
	}
}

// Every list one too long, every text one too long, every number in too many bytes.
func TestP6_3RefusedFields(t *testing.T) {
	for what, c := range map[string]struct {
		at  int
		by  []byte
		why api.Errno
	}{
		"Slot in two bytes":     {5, []byte{0x8b, 0}, api.ErrWireForm},
		"Now above 64 bits":     {6, []byte{255, 255, 255, 255, 255, 255, 255, 255, 255, 2}, api.ErrWireForm},
		"65 accounts":           {9, []byte{65}, api.ErrWireLong},
		"65 holds":              {14, []byte{65}, api.ErrWireLong},
		"65 lines":              {18, []byte{65}, api.ErrWireLong},
		"33 deals":              {25, []byte{33}, api.ErrWireLong},
		"terms of 513 bytes":    {38, []byte{0x81, 4}, api.ErrWireLong},
		"17 sessions":           {41, []byte{17}, api.ErrWireLong},
		"data of 257 bytes":     {46, []byte{0x81, 2}, api.ErrWireLong},
		"data of 256 bytes":     {46, []byte{0x80, 2}, api.ErrWireShort},
		"terms of 512 bytes":    {38, []byte{0x80, 4}, api.ErrWireShort},
		"a code above 64 bits":  {45, []byte{255, 255, 255, 255, 255, 255, 255, 255, 255, 3}, api.ErrWireForm},
		"a count in two bytes":  {9, []byte{0x81, 0}, api.ErrWireForm},
		"a count of 64 bits":    {9, []byte{255, 255, 255, 255, 255, 255, 255, 255, 255, 1}, api.ErrWireLong},
		"a count of 10 bytes 0": {9, []byte{128, 128, 128, 128, 128, 128, 128, 128, 128, 0}, api.ErrWireForm},
	} {
		b := slices.Concat(smallBytes[:c.at], c.by, smallBytes[c.at+1:])
		reads(t, what, b, api.Image{}, verdict{c.why, c.at, true})
		b[5] = 255 // and the slot runs into what follows: another fault, further to the front, or none
		_, v := secondUnpack(b)
		reads(t, what+", and another Slot", b, api.Image{}, v)
	}
}

// The bytes of images that are not well formed, where there are such.
func TestP6_3NotWellFormed(t *testing.T) {
	for _, first := range spoils() {
		for _, later := range spoils() {
			img := small()
			first.turn(&img)
			if later.part > first.part {
				later.turn(&img)
			}
			want, v := secondUnpack(secondPack(img))
			if v.why == api.OK && first.part != 4 && first.part != 5 { // a Kind and a Phase lose all but their low byte
				t.Fatalf("%s: the second reader takes it", first.what)
			}
			reads(t, first.what+", "+later.what, secondPack(img), want, v)
		}
	}
}

// A refusal of layer 1 anywhere goes ahead of a part that is not well formed.
func TestP6_3FieldsAheadOfParts(t *testing.T) {
	for _, s := range spoils() {
		img := small()
		s.turn(&img)
		b := append(secondPack(img), 0)
		_, v := secondUnpack(b)
		if !v.wire && len(b) <= api.MaxSnap {
			t.Errorf("%s: the second reader takes a tail", s.what)
		}
		reads(t, s.what+", and a tail", b, api.Image{}, v)
		b = b[:len(b)-2]
		_, v = secondUnpack(b)
		reads(t, s.what+", and cut", b, api.Image{}, v)
	}
}

func TestP6_3LikeTheSecond(t *testing.T) {
	d := &dice{12}
	taken := 0
	for range 20000 {
		b := secondPack(d.image())
		for range d.below(4) {
			b = spoilt(d, b)
		}
		img, v := secondUnpack(b)
		reads(t, "spoilt bytes", b, img, v)
		if v.why == api.OK {
			taken++
		}
		if t.Failed() {
			return
		}
	}
	if taken < 4000 || taken > 16000 {
		t.Errorf("%d of 20000 are images", taken)
	}
}

// spoilt turns, drops or puts in some bytes, the sooner the nearer to the front.
func spoilt(d *dice, b []byte) []byte {
	b = bytes.Clone(b)
	at := d.below(len(b)+1) >> d.below(5)
	switch d.below(5) {
	case 0:
		return b[:at]
	case 1:
		return slices.Insert(b, at, d.bytes(1+d.below(3))...)
	case 2:
		return slices.Delete(b, min(at, len(b)), min(at+1+d.below(3), len(b)))
	}
	if at < len(b) {
		b[at] = []byte{0, 1, 2, 9, 64, 65, 127, 128, 255, byte(d.next())}[d.below(10)]
	}
	return b
}

func TestP6_3NewMemory(t *testing.T) {
	b := secondPack(full())
	was := bytes.Clone(b)
	one, err := snap.Unpack(b)
	if err != nil || !bytes.Equal(b, was) {
		t.Fatalf("the bytes have changed, or %v", err)
	}
	clear(b)
	if !same(one, full()) {
		t.Error("the image lies in the bytes that were handed in")
	}
	two, _ := snap.Unpack(was)
	for i := range one.Sessions { // the room behind each list's end belongs to no other
		data := one.Sessions[i].Data
		clear(data[:cap(data)])
		for j := i + 1; j < len(one.Sessions); j++ {
			if !bytes.Equal(one.Sessions[j].Data, full().Sessions[j].Data) {
				t.Fatal("the data of two sessions share memory")
			}
		}
	}
	clear(one.House.Deals[:cap(one.House.Deals)])
	clear(one.House.Book.Accounts[:cap(one.House.Book.Accounts)])
	if !same(two, full()) {
		t.Error("two answers share memory")
	}
}

func TestP6_3FaultsAreNew(t *testing.T) {
	_, one := snap.Unpack(nil)
	*one.(*api.Fault).Err.(*api.Fault) = api.Fault{}
	*one.(*api.Fault) = api.Fault{}
	_, two := snap.Unpack(nil)
	isLower(t, "asked again", two, api.ErrWireShort, 0)
}

func TestP6_4ThereAndBack(t *testing.T) {
	d := &dice{13}
	for range 3000 {
		img := d.image()
		want := twin(img)
		got, err := snap.Unpack(packed(t, img))
		if err != nil || !same(got, want) {
			t.Fatalf("%v\nread back as %v, %v", want, got, err)
		}
	}
	for _, img := range []api.Image{{}, small(), full()} {
		if got, err := snap.Unpack(packed(t, img)); err != nil || !same(got, img) {
			t.Errorf("%v\nread back as %v, %v", img, got, err)
		}
	}
}

func TestP6_4OneForm(t *testing.T) {
	d := &dice{14}
	other := 0
	for range 20000 {
		whole := secondPack(d.image())
		b := spoilt(d, whole)
		img, err := snap.Unpack(b)
		if err != nil {
			continue
		}
		if again := packed(t, img); !bytes.Equal(again, b) {
			t.Fatalf("% x\nwritten back as % x", b, again)
		}
		if !bytes.Equal(b, whole) {
			other++
		}
	}
	if other < 1000 {
		t.Errorf("only %d were other images", other)
	}
}

// The image of a real house goes there and back.
func TestP6_4ARealHouse(t *testing.T) {
	h, err := deal.New([]api.Account{{ID: 1, Owner: 300, Balance: 100, Cap: 500}, {ID: 2, Owner: 301, Cap: 500}, {ID: 3, Owner: 302, Cap: 50}})
	if err != nil {
		t.Fatal(err)
	}
	h.Do(300, api.Cmd{Verb: api.VOpen, Deal: 7, Acct: 1, To: 2, Arbiter: 3, Amount: 60, Due: 20, Terms: "on release { pay 6 to arbiter; }"}, 10)
	h.Do(300, api.Cmd{Verb: api.VFund, Deal: 7}, 10)
	img := api.Image{Slot: 2, Now: 10, House: h.Image()}
	got, err := snap.Unpack(packed(t, img))
	if err != nil || !same(got, img) {
		t.Fatalf("read back as %v, %v, want %v", got, err, img)
	}
	if _, err := deal.Restore(got.House); err != nil {
		t.Errorf("the house is none any more: %v", err)
	}
}

func TestP6_4ManyAtOnce(t *testing.T) {
	img, bs := full(), secondPack(full())
	var all sync.WaitGroup
	for range 8 {
		all.Go(func() {
			for range 5 {
				b, err := snap.Pack(img)
				if err != nil || !bytes.Equal(b, bs) {
					t.Error("Pack tells another thing beside others")
				}
				if got, err := snap.Unpack(bs); err != nil || !same(got, img) {
					t.Error("Unpack tells another thing beside others")
				}
			}
		})
	}
	all.Wait()
}
