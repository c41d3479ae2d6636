package deal

import (
	"slices"

	"quorum/api"
	"quorum/wire"
)

func isVerb(v api.Verb) bool { return v >= api.VEnrol && v <= api.VLook }

// numbersOf gives a command's numbers at their fields.
func numbersOf(c api.Cmd) [fieldTerms]uint64 {
	return [...]uint64{
		fieldDeal:    c.Deal,
		fieldAcct:    c.Acct,
		fieldTo:      c.To,
		fieldArbiter: c.Arbiter,
		fieldAmount:  c.Amount,
		fieldDue:     c.Due,
	}
}

// stray tells the first field that is there though the verb does not use it; 0 if there is none.
func stray(c api.Cmd) int {
	used := fieldsOf(c.Verb)
	for field, n := range numbersOf(c) {
		if n != 0 && !slices.Contains(used, field) {
			return field
		}
	}
	if c.Terms != "" && !slices.Contains(used, fieldTerms) {
		return fieldTerms
	}
	return 0
}

// Pack writes a command (P5.1). With the greatest numbers and the longest terms it has fewer than api.MaxCmd bytes, so that all that the writer can refuse are the terms.
func Pack(c api.Cmd) ([]byte, error) {
	if !isVerb(c.Verb) {
		return nil, refusal(0, api.ErrDealCommand)
	}
	if field := stray(c); field != 0 {
		return nil, refusal(field, api.ErrDealCommand)
	}
	numbers := numbersOf(c)
	w := wire.NewWriter(api.MaxCmd)
	w.U8(uint8(c.Verb))
	for _, field := range fieldsOf(c.Verb) {
		if field == fieldTerms {
			w.Text(c.Terms, api.MaxTerms)
		} else {
			w.Num(numbers[field])
		}
	}
	b, err := w.Bytes()
	if err != nil {
		return nil, refusal(fieldTerms, err)
	}
	return b, nil
}

// Unpack reads a command (P5.1).
func Unpack(cmd []byte) (api.Cmd, error) {
	r := wire.NewReader(cmd)
	verb := api.Verb(r.U8())
	if err := r.Err(); err != nil {
		return api.Cmd{}, behind(err)
	}
	if !isVerb(verb) {
		return api.Cmd{}, refusal(0, api.ErrDealCommand)
	}
	c := readFields(r, verb)
	if err := r.End(); err != nil {
		return api.Cmd{}, behind(err)
	}
	return c, nil
}

// readFields reads what stands behind the verb. The reader keeps its first fault, whatever it is asked for later.
func readFields(r *wire.Reader, verb api.Verb) api.Cmd {
	var numbers [fieldTerms]uint64
	var text string
	for _, field := range fieldsOf(verb) {
		if field == fieldTerms {
			text = r.Text(api.MaxTerms)
		} else {
			numbers[field] = r.Num()
		}
	}
	return api.Cmd{
		Verb:    verb,
		Deal:    numbers[fieldDeal],
		Acct:    numbers[fieldAcct],
		To:      numbers[fieldTo],
		Arbiter: numbers[fieldArbiter],
		Amount:  numbers[fieldAmount],
		Due:     numbers[fieldDue],
		Terms:   text,
	}
}
