package code

import "quorum/api"

// words has the word of each Op at its number.
var words = [...]string{
	api.CTick:    "tick",
	api.CNum:     "num",
	api.CTrue:    "true",
	api.CFalse:   "false",
	api.CEnv:     "env",
	api.CGet:     "get",
	api.CPut:     "put",
	api.CNot:     "not",
	api.CEqNum:   "eq",
	api.CNeNum:   "ne",
	api.CLt:      "lt",
	api.CLe:      "le",
	api.CGt:      "gt",
	api.CGe:      "ge",
	api.CEqBool:  "eqb",
	api.CNeBool:  "neb",
	api.CAdd:     "add",
	api.CSub:     "sub",
	api.CMul:     "mul",
	api.CDiv:     "div",
	api.CMod:     "mod",
	api.CMin:     "min",
	api.CMax:     "max",
	api.CShare:   "share",
	api.CJump:    "jump",
	api.CJumpNot: "jumpnot",
	api.CSkipNot: "skipnot",
	api.CSkipYes: "skipyes",
	api.CPay:     "pay",
	api.CRequire: "require",
	api.CFail:    "fail",
	api.CDone:    "done",
}

// argument is what an instruction's Arg is.
type argument int

const (
	noArg argument = iota
	aConst
	anInput
	aSlot
	aPlace
	aFailure
)

// The kinds of operands are told as a text, a letter for each, the lowest operand first: so a list of them is compared, cut and lengthened as a text is. The last two letters stand in the table alone, for a kind that hangs on the Arg.
const (
	number  = 'n'
	truth   = 't'
	ofSlot  = "s"
	ofInput = "i"
)

// form is a row of the document's table of instructions: what the Arg is, and the kinds of what is taken and of what is laid up.
type form struct {
	arg   argument
	takes string
	lays  string
}

// forms has the row of each Op at its number. CSkipNot and CSkipYes take their truth only where they do not jump.
var forms = [...]form{
	api.CTick:    {noArg, "", ""},
	api.CNum:     {aConst, "", "n"},
	api.CTrue:    {noArg, "", "t"},
	api.CFalse:   {noArg, "", "t"},
	api.CEnv:     {anInput, "", ofInput},
	api.CGet:     {aSlot, "", ofSlot},
	api.CPut:     {aSlot, ofSlot, ""},
	api.CNot:     {noArg, "t", "t"},
	api.CEqNum:   {noArg, "nn", "t"},
	api.CNeNum:   {noArg, "nn", "t"},
	api.CLt:      {noArg, "nn", "t"},
	api.CLe:      {noArg, "nn", "t"},
	api.CGt:      {noArg, "nn", "t"},
	api.CGe:      {noArg, "nn", "t"},
	api.CEqBool:  {noArg, "tt", "t"},
	api.CNeBool:  {noArg, "tt", "t"},
	api.CAdd:     {noArg, "nn", "n"},
	api.CSub:     {noArg, "nn", "n"},
	api.CMul:     {noArg, "nn", "n"},
	api.CDiv:     {noArg, "nn", "n"},
	api.CMod:     {noArg, "nn", "n"},
	api.CMin:     {noArg, "nn", "n"},
	api.CMax:     {noArg, "nn", "n"},
	api.CShare:   {noArg, "nnn", "n"},
	api.CJump:    {aPlace, "", ""},
	api.CJumpNot: {aPlace, "t", ""},
	api.CSkipNot: {aPlace, "t", ""},
	api.CSkipYes: {aPlace, "t", ""},
	api.CPay:     {noArg, "nn", ""},
	api.CRequire: {aFailure, "t", ""},
	api.CFail:    {aFailure, "", ""},
	api.CDone:    {noArg, "", ""},
}

// input is what a CEnv lays up.
type input struct {
	name string
	kind int
}

// inputs has each one at its number.
var inputs = [...]input{
	{"caller", api.KindNum},
	{"amount", api.KindNum},
	{"held", api.KindNum},
	{"now", api.KindNum},
	{"opened", api.KindNum},
	{"due", api.KindNum},
	{"asked", api.KindNum},
	{"disputed", api.KindBool},
}

// parties has the name of each party at its number.
var parties = [...]string{
	api.Buyer:   "buyer",
	api.Seller:  "seller",
	api.Arbiter: "arbiter",
}

// events has the word of each event at its number.
var events = [...]string{
	api.EvFund:      "fund",
	api.EvRelease:   "release",
	api.EvDispute:   "dispute",
	api.EvArbitrate: "arbitrate",
	api.EvRefund:    "refund",
	api.EvExpire:    "expire",
}

// operators has the instruction of each operator of the terms between two numbers and between two truths; or and and have ways of their own.
var operators = [...][2]api.CodeOp{
	api.BinEq:  {api.CEqNum, api.CEqBool},
	api.BinNe:  {api.CNeNum, api.CNeBool},
	api.BinLt:  {api.CLt},
	api.BinLe:  {api.CLe},
	api.BinGt:  {api.CGt},
	api.BinGe:  {api.CGe},
	api.BinAdd: {api.CAdd},
	api.BinSub: {api.CSub},
	api.BinMul: {api.CMul},
	api.BinDiv: {api.CDiv},
	api.BinMod: {api.CMod},
}

// calls has the instruction of each function of the terms.
var calls = [...]api.CodeOp{
	api.CallMin:   api.CMin,
	api.CallMax:   api.CMax,
	api.CallShare: api.CShare,
}

// isOp tells whether a number is that of an instruction.
func isOp(op api.CodeOp) bool { return op >= api.CTick && op <= api.CDone }

// isWay tells whether an instruction's Arg is where it may lead.
func isWay(op api.CodeOp) bool { return forms[op].arg == aPlace }
