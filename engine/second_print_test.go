package engine_test

import (
	"errors"
	"fmt"
	"strings"

	"quorum/api"
	"quorum/deal"
)

// secondWords writes a command a second time.
func secondWords(data []byte) string {
	c, err := deal.Unpack(data)
	if err != nil {
		return "raw " + secondHex(data)
	}
	word := verbs[c.Verb]
	switch c.Verb {
	case 1:
		return fmt.Sprint(word, " ", c.Acct, " ", c.Amount)
	case 2, 12:
		return fmt.Sprint(word, " ", c.Acct)
	case 3:
		return fmt.Sprint(word, " ", c.Acct, " ", c.To, " ", c.Amount)
	case 11, 13:
		return fmt.Sprint(word, " ", c.Deal)
	case 4:
		line := fmt.Sprint(word, " ", c.Deal, " ", c.Acct, " ", c.To, " ", c.Arbiter, " ", c.Amount, " ", c.Due)
		if c.Terms != "" {
			line += " " + secondQuoted(c.Terms)
		}
		return line
	}
	return fmt.Sprint(word, " ", c.Deal, " ", c.Amount)
}

// secondQuoted writes a quoted word a second time.
func secondQuoted(text string) string {
	var out strings.Builder
	for _, c := range []byte(text) {
		switch {
		case c == 34 || c == 92:
			fmt.Fprintf(&out, `\%c`, c)
		case c == 10:
			out.WriteString(`\n`)
		case c == 9:
			out.WriteString(`\t`)
		case c >= 32 && c <= 126:
			out.WriteByte(c)
		default:
			fmt.Fprintf(&out, `\x%02X`, c)
		}
	}
	return `"` + out.String() + `"`
}

func secondHex(data []byte) string {
	if len(data) == 0 {
		return "-"
	}
	return fmt.Sprintf("%X", data)
}

// secondPrint writes a script a second time, whatever it is, as long as its events have a text.
func secondPrint(s api.Setup, events []api.Event) string {
	g := s.Config
	text := fmt.Sprintln("cluster", g.F, g.MaxBatch, g.Delay, g.Window, g.Every, g.Beat, g.Epoch, g.EpochMax, g.MaxNum, g.MaxSlot)
	for _, a := range s.Accounts {
		text += fmt.Sprintln("account", a.ID, a.Owner, a.Balance, a.Cap)
	}
	for _, c := range s.Clients {
		text += fmt.Sprintln("client", c.Id, c.Resend)
	}
	for _, e := range events {
		text += secondEvent(e) + "\n"
	}
	return text
}

// secondEvent writes an event a second time.
func secondEvent(e api.Event) string {
	tears := ""
	for _, x := range e.Tears {
		tears += strings.Replace(fmt.Sprintf(" %d:%d:%d", x.File, x.Keep, x.Flip), ":-1", ":-", 1)
	}
	switch e.Kind {
	case 1, 2, 3:
		return fmt.Sprint([]string{"deliver", "drop", "copy"}[e.Kind-1], " ", e.Index)
	case 4:
		return fmt.Sprint("forge ", e.Client, " ", e.Node, " ", secondHex(e.Data))
	case 5:
		return strings.Replace(fmt.Sprint("tick ", e.Node, " ", e.Count), "-1", "all", 1)
	case 6:
		return fmt.Sprint("step ", e.Node, " ", e.Count)
	case 7, 9:
		return fmt.Sprint(map[api.EventKind]string{7: "stop", 9: "restart"}[e.Kind], " ", e.Node)
	case 8:
		return fmt.Sprint("crash ", e.Node) + tears
	case 10:
		return fmt.Sprint("send ", e.Client, " ") + secondWords(e.Data)
	case 11:
		return fmt.Sprint("again ", e.Client)
	case 12:
		return fmt.Sprint("calm ", e.Count)
	}
	return fmt.Sprint("fuse ", e.Node, " ", e.Count) + tears
}

// hasText says by the chapter's list whether an event has a text.
func hasText(e api.Event) bool {
	used := map[api.EventKind]string{1: "I", 2: "I", 3: "I", 4: "NCD", 5: "NK", 6: "NK", 7: "N", 8: "NT", 9: "N", 10: "CD", 11: "C", 12: "K", 13: "NKT"}[e.Kind]
	is := map[string]bool{"N": e.Node != 0, "C": e.Client != 0, "I": e.Index != 0, "K": e.Count != 0, "D": len(e.Data) > 0, "T": len(e.Tears) > 0}
	for field, there := range is {
		if there && !strings.Contains(used, field) {
			return false
		}
	}
	for _, x := range e.Tears {
		if x.Keep < 0 || x.Flip < -1 {
			return false
		}
	}
	return used != "" && e.Index >= 0 && (e.Node >= 0 || e.Kind == 5 && e.Node == -1)
}

// chain tells a refusal as P18.7 says.
func chain(err error) string {
	text := "refused"
	for {
		f, ok := err.(*api.Fault)
		if !ok {
			break
		}
		text += fmt.Sprint(" ", f.Layer, " ", f.At)
		err = f.Err
	}
	var number api.Errno
	if !errors.As(err, &number) {
		return "no number behind " + text
	}
	return text + fmt.Sprintf(" errno %d\n", int(number))
}
