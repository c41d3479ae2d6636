package deal

import (
	"unicode/utf8"

	"quorum/api"
	"quorum/code"
	"quorum/terms"
)

// compiled gives the program of a text of rules, or the first refusal of the layers that look at it.
func compiled(text string) (api.Program, error) {
	tree, err := terms.Parse(text)
	if err != nil {
		return api.Program{}, err
	}
	if err := terms.Check(tree); err != nil {
		return api.Program{}, err
	}
	return code.Compile(tree)
}

// mayBeTerms tells whether a deal may have this text. Parse takes any bytes in a remark, so that UTF-8 is asked for apart.
func mayBeTerms(text string) bool {
	if text == "" {
		return true
	}
	_, err := compiled(text)
	return err == nil && utf8.ValidString(text)
}

// ruleFor gives the program in which a deal's rule for the event stands, and whether there is one. The deal's terms were looked at when the house took it.
func ruleFor(d api.Deal, event int) (api.Program, bool) {
	if d.Terms == "" {
		return api.Program{}, false
	}
	p, _ := compiled(d.Terms)
	return p, p.Entry[event] >= 0
}
