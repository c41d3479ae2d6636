package deal_test

import (
	"reflect"
	"slices"
	"strings"
	"testing"

	"quorum/api"
	"quorum/deal"
)

// packs wants a command to be just those bytes, and those bytes to be just that command.
func packs(t *testing.T, c api.Cmd, want []byte) {
	t.Helper()
	if b, err := deal.Pack(c); err != nil || !same(b, want) {
		t.Errorf("Pack(%v): % x, %v, want % x", c, b, err, want)
	}
	if back, err := deal.Unpack(want); err != nil || back != c {
		t.Errorf("Unpack(% x): %v, %v, want %v", want, back, err, c)
	}
}

// fieldWords has for each verb the fields of the chapter's table, in its order.
var fieldWords = []string{
	api.VEnrol:     "Acct Amount",
	api.VClose:     "Acct",
	api.VTransfer:  "Acct To Amount",
	api.VOpen:      "Deal Acct To Arbiter Amount Due Terms",
	api.VFund:      "Deal Amount",
	api.VRelease:   "Deal Amount",
	api.VDispute:   "Deal Amount",
	api.VArbitrate: "Deal Amount",
	api.VRefund:    "Deal Amount",
	api.VExpire:    "Deal Amount",
	api.VCallOff:   "Deal",
	api.VBalance:   "Acct",
	api.VLook:      "Deal",
}

// fieldOrder has all fields in the order in which Pack looks at them.
var fieldOrder = strings.Fields("Verb Deal Acct To Arbiter Amount Due Terms")

// field gives a command's field by its name.
func field(c *api.Cmd, name string) reflect.Value { return reflect.ValueOf(c).Elem().FieldByName(name) }

// fill gives a field a value that is not zero.
func fill(c *api.Cmd, name string, n uint64) {
	if f := field(c, name); name == "Terms" {
		f.SetString(strings.Repeat("é", int(n%200)+1))
	} else {
		f.SetUint(n)
	}
}

// numBytes lays a number down as layer 1 does.
func numBytes(n uint64) []byte {
	var b []byte
	for n > 127 {
		b = append(b, byte(n%128)+128)
		n /= 128
	}
	return append(b, byte(n))
}

// secondPack lays a command down by the chapter's table, without a look at what it holds.
func secondPack(c api.Cmd) []byte {
	b := []byte{byte(c.Verb)}
	for _, name := range strings.Fields(fieldWords[c.Verb]) {
		if name == "Terms" {
			b = append(append(b, numBytes(uint64(len(c.Terms)))...), c.Terms...)
		} else {
			b = append(b, numBytes(field(&c, name).Uint())...)
		}
	}
	return b
}

// eachVerb gives a command of every verb with all its fields filled.
func eachVerb(n uint64) []api.Cmd {
	var list []api.Cmd
	for v := api.VEnrol; v <= api.VLook; v++ {
		c := api.Cmd{Verb: v}
		for i, name := range strings.Fields(fieldWords[v]) {
			fill(&c, name, n-uint64(i))
		}
		list = append(list, c)
	}
	return list
}

func TestP5_1Bytes(t *testing.T) {
	packs(t, enrol(300, 128), []byte{1, 0xAC, 2, 0x80, 1})
	packs(t, shut(9), []byte{2, 9})
	packs(t, transfer(1, 2, 30), []byte{3, 1, 2, 0x1E})
	packs(t, api.Cmd{Verb: api.VOpen, Deal: 1, Acct: 2, To: 3, Arbiter: 4, Amount: 5, Due: 6, Terms: "aé"}, []byte{4, 1, 2, 3, 4, 5, 6, 3, 'a', 0xC3, 0xA9})
	packs(t, on(api.VRelease, 7, 8), []byte{6, 7, 8})
	packs(t, on(api.VDispute, 7, 8), []byte{7, 7, 8})
	packs(t, on(api.VArbitrate, 7, 8), []byte{8, 7, 8})
	packs(t, on(api.VRefund, 7, 8), []byte{9, 7, 8})
	packs(t, on(api.VExpire, 7, 8), []byte{10, 7, 8})
	packs(t, callingOff(0), []byte{11, 0})
	packs(t, balance(127), []byte{12, 127})
	packs(t, looking(most), []byte{13, 255, 255, 255, 255, 255, 255, 255, 255, 255, 1})
	for _, n := range []uint64{7, 127, 128, 199, 1 << 35, most} {
		for _, c := range eachVerb(n) {
			packs(t, c, secondPack(c))
		}
	}
	for v := api.VEnrol; v <= api.VLook; v++ {
		packs(t, api.Cmd{Verb: v}, secondPack(api.Cmd{Verb: v}))
	}
}

func TestP5_1LongestCommand(t *testing.T) {
	c := api.Cmd{Verb: api.VOpen, Deal: most, Acct: most, To: most, Arbiter: most, Amount: most, Due: most, Terms: strings.Repeat("é", 256)}
	packs(t, c, secondPack(c))
	c.Terms = strings.Repeat("\x00", 512)
	packs(t, c, secondPack(c))
	if n := len(secondPack(c)); n > api.MaxCmd {
		t.Errorf("a command of %d bytes", n)
	}
}

func TestP5_1NoVerb(t *testing.T) {
	for _, v := range []api.Verb{0, 14, -1, 256 + 5, 1 << 40, -1 << 63} {
		c := api.Cmd{Verb: v, Deal: 1, Acct: 1, To: 1, Arbiter: 1, Amount: 1, Due: 1, Terms: "\xff"}
		b, err := deal.Pack(c)
		isFault(t, "Pack without a verb", err, api.ErrDealCommand, 0)
		if b != nil {
			t.Errorf("Pack(%v): % x beside its fault", c, b)
		}
	}
	for first := range 256 {
		for _, cmd := range [][]byte{{byte(first)}, {byte(first), 0xFF, 0xFF}} {
			if first >= 1 && first <= 13 {
				continue
			}
			c, err := deal.Unpack(cmd)
			isFault(t, "Unpack without a verb", err, api.ErrDealCommand, 0)
			if c != (api.Cmd{}) {
				t.Errorf("Unpack(% x): %v beside its fault", cmd, c)
			}
		}
	}
}

// Each verb with each field that is not its own, alone and with all behind it.
func TestP5_1StrayFields(t *testing.T) {
	for v := api.VEnrol; v <= api.VLook; v++ {
		own := strings.Fields(fieldWords[v])
		for at, name := range fieldOrder {
			if at == 0 || slices.Contains(own, name) {
				continue
			}
			c := api.Cmd{Verb: v}
			fill(&c, name, 1)
			b, err := deal.Pack(c)
			isFault(t, "Pack with a stray "+name, err, api.ErrDealCommand, at)
			for _, behind := range fieldOrder[at:] {
				fill(&c, behind, most)
			}
			for _, its := range own {
				fill(&c, its, 5)
			}
			b2, err := deal.Pack(c)
			isFault(t, "Pack with a stray "+name, err, api.ErrDealCommand, at)
			if b != nil || b2 != nil {
				t.Errorf("Pack: bytes beside a fault")
			}
		}
	}
	_, err := deal.Pack(api.Cmd{Verb: api.VLook, Terms: strings.Repeat("\xff", 600)})
	isFault(t, "Pack with stray terms that are none", err, api.ErrDealCommand, 7)
}

func TestP5_1TermsThatMayNotBe(t *testing.T) {
	for _, c := range []struct {
		text string
		why  api.Errno
	}{
		{strings.Repeat("x", 513), api.ErrWireLong},
		{strings.Repeat("\xff", 513), api.ErrWireLong},
		{strings.Repeat("\xff", 512), api.ErrWireText},
		{"a\xff", api.ErrWireText},
		{"\xC0\x80", api.ErrWireText},
		{"\xED\xA0\x80", api.ErrWireText},
		{strings.Repeat("x", 511) + "\xC3", api.ErrWireText},
	} {
		for _, id := range []uint64{0, 128, most} {
			cmd := api.Cmd{Verb: api.VOpen, Deal: id, Acct: 1, To: 200, Terms: c.text}
			b, err := deal.Pack(cmd)
			isLower(t, "Pack", err, 7, "wire", c.why, 1+len(numBytes(id))+1+2+1+1+1)
			if b != nil {
				t.Error("Pack: bytes beside a fault")
			}
		}
	}
}

// Every command that is cut off anywhere, and every one with something behind it.
func TestP5_1CutAndLonger(t *testing.T) {
	_, err := deal.Unpack(nil)
	isLower(t, "Unpack of nil", err, 0, "wire", api.ErrWireShort, 0)
	_, err = deal.Unpack([]byte{})
	isLower(t, "Unpack of nothing", err, 0, "wire", api.ErrWireShort, 0)
	for _, c := range eachVerb(1 << 20) {
		b := secondPack(c)
		starts := starts(c)
		for n := 1; n < len(b); n++ {
			got, err := deal.Unpack(b[:n])
			at := n
			for _, s := range starts {
				if s <= n {
					at = s
				}
			}
			isLower(t, "Unpack of a part", err, at, "wire", api.ErrWireShort, at)
			if got != (api.Cmd{}) {
				t.Errorf("Unpack(% x): %v beside its fault", b[:n], got)
			}
		}
		got, err := deal.Unpack(append(b, 0))
		isLower(t, "Unpack with a byte more", err, len(b), "wire", api.ErrWireTail, len(b))
		if got != (api.Cmd{}) {
			t.Errorf("Unpack: %v beside its fault", got)
		}
	}
	_, err = deal.Unpack(append(secondPack(looking(1)), make([]byte, 1<<16)...))
	isLower(t, "Unpack with much behind it", err, 2, "wire", api.ErrWireTail, 2)
}

// starts tells where the fields behind the verb begin.
func starts(c api.Cmd) []int {
	at := 1
	var list []int
	for _, name := range strings.Fields(fieldWords[c.Verb]) {
		list = append(list, at)
		if name != "Terms" {
			at += len(numBytes(field(&c, name).Uint()))
		}
	}
	return list
}

func TestP5_1FieldsThatCanNotBeRead(t *testing.T) {
	over := []byte{255, 255, 255, 255, 255, 255, 255, 255, 255, 2}
	for _, c := range []struct {
		cmd []byte
		why api.Errno
		at  int
	}{
		{[]byte{5, 0x87, 0}, api.ErrWireForm, 1},
		{[]byte{5, 7, 0x80, 0}, api.ErrWireForm, 2},
		{append([]byte{12}, over...), api.ErrWireForm, 1},
		{append([]byte{3, 1, 2}, over...), api.ErrWireForm, 3},
		{[]byte{4, 1, 2, 3, 4, 5, 6, 1, 0xFF}, api.ErrWireText, 7},
		{[]byte{4, 1, 2, 3, 4, 5, 6, 2, 'a'}, api.ErrWireShort, 7},
		{[]byte{4, 1, 2, 3, 4, 5, 6, 0x81, 4}, api.ErrWireLong, 7},
		{append([]byte{4, 1, 2, 3, 4, 5, 6, 0x81, 4}, make([]byte, 513)...), api.ErrWireLong, 7},
		{[]byte{4, 0x80, 0, 3, 4, 5, 6, 1, 0xFF}, api.ErrWireForm, 1},
	} {
		got, err := deal.Unpack(c.cmd)
		isLower(t, "Unpack", err, c.at, "wire", c.why, c.at)
		if got != (api.Cmd{}) {
			t.Errorf("Unpack(% x): %v beside its fault", c.cmd, got)
		}
	}
}

// Unpack gives a command just if Pack gives those bytes: for bytes that are nearly commands.
func TestP5_1JustOneForm(t *testing.T) {
	d := &dice{51}
	taken := 0
	for range 40000 {
		cmd := secondPack(one(d, eachVerb(one[uint64](d, 9, 130, 5000))...))
		for range d.below(3) {
			switch at := d.below(len(cmd)); d.below(4) {
			case 0:
				cmd = slices.Delete(cmd, at, at+1)
			case 1:
				cmd = slices.Insert(cmd, at, byte(d.below(256)))
			default:
				cmd[at] = byte(d.below(256))
			}
			if len(cmd) == 0 {
				break
			}
		}
		c, err := deal.Unpack(cmd)
		if err != nil {
			continue
		}
		taken++
		if b, err := deal.Pack(c); err != nil || !same(b, cmd) {
			t.Fatalf("Unpack(% x) is %v, Pack of that % x, %v", cmd, c, b, err)
		}
	}
	if taken < 1000 {
		t.Errorf("only %d were commands", taken)
	}
}

func TestP5_1NothingIsKept(t *testing.T) {
	b := secondPack(opening(7, "on fund { }"))
	c, err := deal.Unpack(b)
	if err != nil {
		t.Fatal(err)
	}
	clear(b)
	if c != opening(7, "on fund { }") {
		t.Errorf("the command has become %v", c)
	}
	first, _ := deal.Pack(c)
	clear(first[:cap(first)])
	packs(t, c, secondPack(c))
}
