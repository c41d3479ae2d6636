package snap

import (
	"quorum/api"
	"quorum/wire"
)

// The functions below come in pairs: one lays a part of a well-formed state down, the other reads it. A reader keeps its first fault, and tells all that it is asked for later as zero; so it is asked only at the end.

func layState(w *wire.Writer, img api.Image) {
	layNums(w, img.Slot, img.Now)
	layBook(w, img.House.Book)
	layNums(w, img.House.Ends)
	layList(w, img.House.Deals, api.MaxDeals, layDeal)
	layList(w, img.Sessions, api.MaxClients, laySession)
}

func readState(r *wire.Reader) api.Image {
	return api.Image{
		Slot: r.Num(),
		Now:  r.Num(),
		House: api.HouseImage{
			Book:  readBook(r),
			Ends:  r.Num(),
			Deals: readList(r, api.MaxDeals, readDeal),
		},
		Sessions: readList(r, api.MaxClients, readSession),
	}
}

func layBook(w *wire.Writer, book api.LedgerImage) {
	layNums(w, book.Total, book.Next)
	layList(w, book.Accounts, api.MaxAccts, layAccount)
	layList(w, book.Holds, api.MaxHolds, layHold)
	layList(w, book.Journal, api.MaxJournal, layEntry)
}

func readBook(r *wire.Reader) api.LedgerImage {
	return api.LedgerImage{
		Total:    r.Num(),
		Next:     r.Num(),
		Accounts: readList(r, api.MaxAccts, readAccount),
		Holds:    readList(r, api.MaxHolds, readHold),
		Journal:  readList(r, api.MaxJournal, readEntry),
	}
}

func layAccount(w *wire.Writer, a api.Account) { layNums(w, a.ID, a.Owner, a.Balance, a.Cap) }

func readAccount(r *wire.Reader) api.Account {
	return api.Account{ID: r.Num(), Owner: r.Num(), Balance: r.Num(), Cap: r.Num()}
}

func layHold(w *wire.Writer, h api.Hold) { layNums(w, h.ID, h.From, h.Amount) }

func readHold(r *wire.Reader) api.Hold {
	return api.Hold{ID: r.Num(), From: r.Num(), Amount: r.Num()}
}

func layEntry(w *wire.Writer, e api.Entry) {
	w.Num(e.Seq)
	w.U8(uint8(e.Kind))
	layNums(w, e.From, e.To, e.Amount)
}

func readEntry(r *wire.Reader) api.Entry {
	return api.Entry{Seq: r.Num(), Kind: int(r.U8()), From: r.Num(), To: r.Num(), Amount: r.Num()}
}

func layDeal(w *wire.Writer, d api.Deal) {
	layNums(w, d.ID, d.Buyer, d.Seller, d.Arbiter, d.Amount, d.Opened, d.Due)
	w.U8(uint8(d.Phase))
	layNums(w, d.Paid[0], d.Paid[1], d.Paid[2], d.End)
	w.Blob([]byte(d.Terms), api.MaxTerms)
}

func readDeal(r *wire.Reader) api.Deal {
	return api.Deal{
		ID:      r.Num(),
		Buyer:   r.Num(),
		Seller:  r.Num(),
		Arbiter: r.Num(),
		Amount:  r.Num(),
		Opened:  r.Num(),
		Due:     r.Num(),
		Phase:   api.Phase(r.U8()),
		Paid:    [3]uint64{r.Num(), r.Num(), r.Num()},
		End:     r.Num(),
		Terms:   string(r.Blob(api.MaxTerms)),
	}
}

func laySession(w *wire.Writer, s api.Session) {
	layNums(w, s.Client, s.Seq, s.Stamp, uint64(s.Code))
	w.Blob(s.Data, api.MaxData)
}

// readSession reads a session. A code above the greatest one is still above it, or below 0, as an Errno.
func readSession(r *wire.Reader) api.Session {
	return api.Session{Client: r.Num(), Seq: r.Num(), Stamp: r.Num(), Code: api.Errno(r.Num()), Data: r.Blob(api.MaxData)}
}

func layNums(w *wire.Writer, numbers ...uint64) {
	for _, n := range numbers {
		w.Num(n)
	}
}

func layList[T any](w *wire.Writer, list []T, most int, lay func(*wire.Writer, T)) {
	w.Count(len(list), most)
	for _, x := range list {
		lay(w, x)
	}
}

func readList[T any](r *wire.Reader, most int, read func(*wire.Reader) T) []T {
	var list []T
	for range r.Count(most) {
		list = append(list, read(r))
	}
	return list
}
