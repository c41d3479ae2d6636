package engine

import "quorum/api"

// lineForm is a line by its first word: whether it may not stand where the script has come to, and how it is read.
type lineForm struct {
	word string
	shut func(s *script) bool
	read func(s *script, l *line)
}

// lineForms gives the forms of all lines.
func lineForms() []lineForm {
	list := []lineForm{
		{"cluster", (*script).begun, (*script).cluster},
		{"account", (*script).settled, (*script).account},
		{"client", (*script).settled, (*script).client},
	}
	for _, f := range eventForms() {
		list = append(list, lineForm{f.word, (*script).headless, func(s *script, l *line) { s.event(f, l) }})
	}
	return list
}

// part is what stands at one place of an event's line: how it is read into the event, and how it is written.
type part struct {
	read  func(l *line, e *api.Event)
	write func(r *rest) ([]string, bool)
}

// eventForm is the line of a kind of event: its first word, and the parts behind it.
type eventForm struct {
	word  string
	kind  api.EventKind
	parts []part
}

// eventForms gives the forms of all events.
func eventForms() []eventForm {
	index := part{(*line).index, (*rest).index}
	node := part{(*line).node, (*rest).node}
	nodes := part{(*line).nodes, (*rest).nodes}
	client := part{(*line).client, (*rest).client}
	count := part{(*line).count, (*rest).count}
	data := part{(*line).data, (*rest).data}
	tears := part{(*line).tears, (*rest).tears}
	command := part{(*line).command, (*rest).command}
	return []eventForm{
		{"deliver", api.EDeliver, []part{index}},
		{"drop", api.EDrop, []part{index}},
		{"copy", api.ECopy, []part{index}},
		{"forge", api.EForge, []part{client, node, data}},
		{"tick", api.ETick, []part{nodes, count}},
		{"step", api.EStep, []part{node, count}},
		{"stop", api.EStop, []part{node}},
		{"restart", api.ERestart, []part{node}},
		{"crash", api.ECrash, []part{node, tears}},
		{"fuse", api.EFuse, []part{node, count, tears}},
		{"send", api.ESend, []part{client, command}},
		{"again", api.EAgain, []part{client}},
		{"calm", api.ECalm, []part{count}},
	}
}

// field gives the place of a number in a command.
type field func(c *api.Cmd) *uint64

// commandForm is a command in words: its first one, its verb, and where the numbers behind it belong.
type commandForm struct {
	word   string
	verb   api.Verb
	fields []field
}

// commandForms gives the forms of all commands but raw, which is none of the house's.
func commandForms() []commandForm {
	deal := func(c *api.Cmd) *uint64 { return &c.Deal }
	acct := func(c *api.Cmd) *uint64 { return &c.Acct }
	to := func(c *api.Cmd) *uint64 { return &c.To }
	arbiter := func(c *api.Cmd) *uint64 { return &c.Arbiter }
	amount := func(c *api.Cmd) *uint64 { return &c.Amount }
	due := func(c *api.Cmd) *uint64 { return &c.Due }
	return []commandForm{
		{"enrol", api.VEnrol, []field{acct, amount}},
		{"close", api.VClose, []field{acct}},
		{"transfer", api.VTransfer, []field{acct, to, amount}},
		{"open", api.VOpen, []field{deal, acct, to, arbiter, amount, due}},
		{"fund", api.VFund, []field{deal, amount}},
		{"release", api.VRelease, []field{deal, amount}},
		{"dispute", api.VDispute, []field{deal, amount}},
		{"arbitrate", api.VArbitrate, []field{deal, amount}},
		{"refund", api.VRefund, []field{deal, amount}},
		{"expire", api.VExpire, []field{deal, amount}},
		{"calloff", api.VCallOff, []field{deal}},
		{"balance", api.VBalance, []field{acct}},
		{"look", api.VLook, []field{deal}},
	}
}
