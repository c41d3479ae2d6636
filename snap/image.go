package snap

import (
	"slices"

	"quorum/api"
	"quorum/wire"
)

// What the bytes of every state begin with, and the offset of the second of the two.
const (
	magic     = 0x51534e50
	version   = 1
	atVersion = 4
)

// Pack writes the state as bytes (P6.2). A well-formed state with the greatest numbers and the longest texts has fewer than api.MaxSnap bytes, so that the writer refuses none.
func Pack(img api.Image) ([]byte, error) {
	if part := wrongPart(img); part >= 0 {
		return nil, refusal(part, api.ErrSnapImage)
	}
	w := wire.NewWriter(api.MaxSnap)
	w.U32(magic)
	w.U8(version)
	layState(w, img)
	b, err := w.Bytes()
	if err != nil {
		return nil, behind(err)
	}
	return b, nil
}

// Unpack reads the state back (P6.3).
func Unpack(b []byte) (api.Image, error) {
	if len(b) > api.MaxSnap {
		return api.Image{}, refusal(0, api.ErrSnapLong)
	}
	r := wire.NewReader(b)
	if err := readHead(r); err != nil {
		return api.Image{}, err
	}
	img := readState(r)
	if err := r.End(); err != nil {
		return api.Image{}, behind(err)
	}
	if part := wrongPart(img); part >= 0 {
		return api.Image{}, refusal(part, api.ErrSnapImage)
	}
	return img, nil
}

// readHead reads what the bytes of every state begin with; the first field is looked at ahead of the second.
func readHead(r *wire.Reader) error {
	first := r.U32()
	switch err := r.Err(); {
	case err != nil:
		return behind(err)
	case first != magic:
		return refusal(0, api.ErrSnapForm)
	}
	second := r.U8()
	switch err := r.Err(); {
	case err != nil:
		return behind(err)
	case second != version:
		return refusal(atVersion, api.ErrSnapForm)
	}
	return nil
}

// wrongPart tells the number of the first part that is not well formed; below 0, if all are.
func wrongPart(img api.Image) int {
	book := img.House.Book
	wellFormed := []bool{
		img.Slot <= api.MaxSlots,
		img.Now <= api.MaxTick,
		soundAccounts(book.Accounts),
		soundHolds(book.Holds),
		soundJournal(book.Journal),
		soundDeals(img.House.Deals),
		soundSessions(img.Sessions),
	}
	return slices.Index(wellFormed, false)
}

// rising tells whether a list has at most so many elements, each with a number above the one ahead of it, and the first with one above 0.
func rising[T any](list []T, most int, number func(T) uint64) bool {
	ahead := uint64(0)
	for _, x := range list {
		if number(x) <= ahead {
			return false
		}
		ahead = number(x)
	}
	return len(list) <= most
}

func soundAccounts(list []api.Account) bool {
	return rising(list, api.MaxAccts, func(a api.Account) uint64 { return a.ID })
}

func soundHolds(list []api.Hold) bool {
	return rising(list, api.MaxHolds, func(h api.Hold) uint64 { return h.ID })
}

// soundJournal looks at the lines. Unlike the other lists they may begin with the number 0.
func soundJournal(lines []api.Entry) bool {
	for i, e := range lines {
		if i > 0 && e.Seq <= lines[i-1].Seq || e.Kind < api.EntryCreate || e.Kind > api.EntryPay {
			return false
		}
	}
	return len(lines) <= api.MaxJournal
}

func soundDeals(list []api.Deal) bool {
	for _, d := range list {
		if d.Phase < api.PhaseOpen || d.Phase > api.PhaseCalledOff || len(d.Terms) > api.MaxTerms {
			return false
		}
	}
	return rising(list, api.MaxDeals, func(d api.Deal) uint64 { return d.ID })
}

func soundSessions(list []api.Session) bool {
	for _, s := range list {
		if s.Code < 0 || s.Code > api.MaxCode || len(s.Data) > api.MaxData {
			return false
		}
	}
	return rising(list, api.MaxClients, func(s api.Session) uint64 { return s.Client })
}
