package deal

import "quorum/api"

// The fields of a command, by the numbers at which Pack refuses them. Their bytes stand in this order too, whatever the verb.
const (
	fieldDeal = 1 + iota
	fieldAcct
	fieldTo
	fieldArbiter
	fieldAmount
	fieldDue
	fieldTerms
)

// fieldsOf gives the fields that a verb uses, in their order.
func fieldsOf(v api.Verb) []int {
	switch v {
	case api.VEnrol:
		return []int{fieldAcct, fieldAmount}
	case api.VTransfer:
		return []int{fieldAcct, fieldTo, fieldAmount}
	case api.VOpen:
		return []int{fieldDeal, fieldAcct, fieldTo, fieldArbiter, fieldAmount, fieldDue, fieldTerms}
	case api.VClose, api.VBalance:
		return []int{fieldAcct}
	case api.VCallOff, api.VLook:
		return []int{fieldDeal}
	}
	return []int{fieldDeal, fieldAmount} // the six actions
}

// action is what holds of one of the six actions alone.
type action struct {
	event int
	who   []int       // the roles that may do it where there is no rule
	in    []api.Phase // the phases in which it may be done
	then  api.Phase   // the phase behind it
	rest  int         // the role that gets what is held and not paid; 0 if that stays held, and the deal goes on
}

// actionOf gives the action of one of the six verbs.
func actionOf(v api.Verb) action {
	const (
		open     = api.PhaseOpen
		funded   = api.PhaseFunded
		disputed = api.PhaseDisputed
	)
	return [...]action{
		api.VFund:      {api.EvFund, []int{api.Buyer}, []api.Phase{open}, funded, 0},
		api.VRelease:   {api.EvRelease, []int{api.Buyer}, []api.Phase{funded, disputed}, api.PhaseReleased, api.Seller},
		api.VDispute:   {api.EvDispute, []int{api.Buyer, api.Seller}, []api.Phase{funded}, disputed, 0},
		api.VArbitrate: {api.EvArbitrate, []int{api.Arbiter}, []api.Phase{disputed}, api.PhaseRuled, api.Buyer},
		api.VRefund:    {api.EvRefund, []int{api.Seller}, []api.Phase{funded, disputed}, api.PhaseRefunded, api.Buyer},
		api.VExpire:    {api.EvExpire, []int{api.Buyer, api.Seller, api.Arbiter}, []api.Phase{open, funded, disputed}, api.PhaseExpired, api.Buyer},
	}[v]
}

// doers gives at each verb the method that does its commands.
func doers() [api.VLook + 1]func(*House, order) api.Result {
	return [...]func(*House, order) api.Result{
		api.VEnrol:     (*House).enrol,
		api.VClose:     (*House).close,
		api.VTransfer:  (*House).transfer,
		api.VOpen:      (*House).open,
		api.VFund:      (*House).act,
		api.VRelease:   (*House).act,
		api.VDispute:   (*House).act,
		api.VArbitrate: (*House).act,
		api.VRefund:    (*House).act,
		api.VExpire:    (*House).act,
		api.VCallOff:   (*House).callOff,
		api.VBalance:   (*House).balance,
		api.VLook:      (*House).look,
	}
}
