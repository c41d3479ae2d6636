package terms

import (
	"math"

	"quorum/api"
)

// keywords are the words that are no names.
var keywords = [...]string{
	"on", "fund", "release", "dispute", "arbitrate", "refund", "expire",
	"let", "set", "if", "else", "while", "break", "continue", "require", "pay", "to", "fail", "done",
	"true", "false", "not", "and", "or", "min", "max", "share",
}

// marks has those of two bytes first: of two that fit the longer one counts.
var marks = [...]string{
	"==", "!=", "<=", ">=",
	"{", "}", "(", ")", ",", ";", ":", "=", "<", ">", "+", "-", "*", "/", "%",
}

// events has the word of each event at its number.
var events = [...]string{
	api.EvFund:      "fund",
	api.EvRelease:   "release",
	api.EvDispute:   "dispute",
	api.EvArbitrate: "arbitrate",
	api.EvRefund:    "refund",
	api.EvExpire:    "expire",
}

// calls has the word of each function at its number.
var calls = [...]string{
	api.CallMin:   "min",
	api.CallMax:   "max",
	api.CallShare: "share",
}

// kind is what an expression's value is, or what its place wants.
type kind int

const (
	either kind = iota
	number
	truth
)

// How strongly an expression binds, by the part of the grammar that it comes from. A place that takes any expression wants bindsOr.
const (
	bindsOr = 1 + iota
	bindsAnd
	bindsNot
	bindsCompared
	bindsSum
	bindsProduct
	bindsPrimary
)

// operator is how an operator is written and binds, how strongly its sides must bind at least, and of which kinds its sides and its value are.
type operator struct {
	word        string
	binds       int
	left, right int
	takes       kind
	gives       kind
}

// operators has each one at its number. Where the right side wants more than the left one the operator binds to the left; where both want more than it has itself there is no second one behind it. So neither needs a rule of its own.
var operators = [...]operator{
	api.BinOr:  {"or", bindsOr, bindsOr, bindsAnd, truth, truth},
	api.BinAnd: {"and", bindsAnd, bindsAnd, bindsNot, truth, truth},
	api.BinEq:  {"==", bindsCompared, bindsSum, bindsSum, either, truth},
	api.BinNe:  {"!=", bindsCompared, bindsSum, bindsSum, either, truth},
	api.BinLt:  {"<", bindsCompared, bindsSum, bindsSum, number, truth},
	api.BinLe:  {"<=", bindsCompared, bindsSum, bindsSum, number, truth},
	api.BinGt:  {">", bindsCompared, bindsSum, bindsSum, number, truth},
	api.BinGe:  {">=", bindsCompared, bindsSum, bindsSum, number, truth},
	api.BinAdd: {"+", bindsSum, bindsSum, bindsProduct, number, number},
	api.BinSub: {"-", bindsSum, bindsSum, bindsProduct, number, number},
	api.BinMul: {"*", bindsProduct, bindsProduct, bindsPrimary, number, number},
	api.BinDiv: {"/", bindsProduct, bindsProduct, bindsPrimary, number, number},
	api.BinMod: {"%", bindsProduct, bindsProduct, bindsPrimary, number, number},
}

// input is a name that can be seen everywhere.
type input struct {
	name string
	kind kind
}

// inputs are in the order in which given tells their values.
var inputs = [...]input{
	{"buyer", number},
	{"seller", number},
	{"arbiter", number},
	{"caller", number},
	{"amount", number},
	{"held", number},
	{"now", number},
	{"opened", number},
	{"due", number},
	{"asked", number},
	{"disputed", truth},
}

// The places of a tree, by what may stand there.
const (
	aText        = 't'
	aRule        = 'r'
	aBlock       = 'b'
	aStatement   = 's'
	anExpression = 'e'
)

// naming tells whether a node has a name.
type naming int

const (
	nameless naming = iota
	named
	mayBeNamed
)

// shape is a row of the document's table of trees: where a node may stand, the places behind it (of a TRules and a TBlock the one that comes N times), which N it may have, and whether a name.
type shape struct {
	place       byte
	parts       string
	least, most uint64
	naming      naming
}

// shapeOf gives the row of an Op; what is no Op has one that may stand nowhere. A function, as a call that reads terms and runs them reaches as many tables as it may.
func shapeOf(op api.TermsOp) shape {
	switch op {
	case api.TRules:
		return shape{aText, "r", 1, math.MaxUint64, nameless}
	case api.TOn:
		return shape{aRule, "b", 0, api.EvExpire, nameless}
	case api.TBlock:
		return shape{aBlock, "s", 0, math.MaxUint64, nameless}
	case api.TLet, api.TSet:
		return shape{aStatement, "e", 0, 0, named}
	case api.TIf:
		return shape{aStatement, "ebb", 0, 0, nameless}
	case api.TWhile:
		return shape{aStatement, "eb", 0, 0, mayBeNamed}
	case api.TBreak, api.TContinue:
		return shape{aStatement, "", 0, 0, mayBeNamed}
	case api.TRequire:
		return shape{aStatement, "e", 1, api.MaxTermsFail, nameless}
	case api.TPay:
		return shape{aStatement, "ee", 0, 0, nameless}
	case api.TFail:
		return shape{aStatement, "", 1, api.MaxTermsFail, nameless}
	case api.TDone:
		return shape{aStatement, "", 0, 0, nameless}
	case api.TNum:
		return shape{anExpression, "", 0, math.MaxUint64, nameless}
	case api.TTrue, api.TFalse:
		return shape{anExpression, "", 0, 0, nameless}
	case api.TVar:
		return shape{anExpression, "", 0, 0, named}
	case api.TNot:
		return shape{anExpression, "e", 0, 0, nameless}
	case api.TBin:
		return shape{anExpression, "ee", 0, api.BinMod, nameless}
	case api.TCall:
		return shape{anExpression, "eee", 0, api.CallShare, nameless}
	}
	return shape{}
}

// isKeyword tells whether a word is one of the language's own.
func isKeyword(word string) bool {
	for _, k := range keywords {
		if k == word {
			return true
		}
	}
	return false
}

// inputAt gives the place of an input among the inputs; false if there is none of that name.
func inputAt(name string) (int, bool) {
	for i, in := range inputs {
		if in.name == name {
			return i, true
		}
	}
	return 0, false
}
