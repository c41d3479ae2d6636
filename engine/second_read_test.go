package engine_test

import (
	"encoding/hex"
	"fmt"
	"math/big"
	"regexp"
	"strconv"
	"strings"

	"quorum/api"
	"quorum/deal"
)

// script is what a second reading gives: one by regular expressions and big numbers.
type script struct {
	setup  api.Setup
	events []api.Event
	lines  []int
	head   int
}

// patterns are the lines: N a number, I one that goes into an int, H bytes, Q a quoted word, * any number of tears.
var patterns = map[string][]string{
	"cluster": {"I I N N N N N N N N"},
	"account": {"N N N N"},
	"client":  {"N N"},
	"deliver": {"I"},
	"drop":    {"I"},
	"copy":    {"I"},
	"forge":   {"N I H"},
	"tick":    {"I N", "(all) N"},
	"step":    {"I N"},
	"stop":    {"I"},
	"restart": {"I"},
	"crash":   {"I*"},
	"fuse":    {"I N*"},
	"again":   {"N"},
	"calm":    {"N"},
	"send": {"N (enrol) N N", "N (close) N", "N (transfer) N N N", "N (open) N N N N N N", "N (open) N N N N N N Q", "N (fund|release|dispute|arbitrate|refund|expire) N N",
		"N (calloff|balance|look) N", "N (raw) H"},
}

var kinds = map[string]api.EventKind{"deliver": 1, "drop": 2, "copy": 3, "forge": 4, "tick": 5, "step": 6, "stop": 7, "crash": 8, "restart": 9, "send": 10, "again": 11, "calm": 12, "fuse": 13}

var verbs = []string{"", "enrol", "close", "transfer", "open", "fund", "release", "dispute", "arbitrate", "refund", "expire", "calloff", "balance", "look"}

// lineForms are the patterns as expressions.
var lineForms = func() map[string][]*regexp.Regexp {
	const blank = `[\t\r ]`
	parts := strings.NewReplacer(
		" ", blank+"+",
		"N", `(0|[1-9][0-9]*)`,
		"I", `(0|[1-9][0-9]*)`,
		"H", `(-|(?:[0-9A-F][0-9A-F])+)`,
		"Q", `("(?:[ !#-\[\]-~]|\\["\\nt]|\\x[0-9A-F][0-9A-F])+")`,
		"*", `((?:`+blank+`+(?:0|[1-9][0-9]*):(?:0|[1-9][0-9]*):(?:-|0|[1-9][0-9]*))*)`,
	)
	list := map[string][]*regexp.Regexp{}
	for word, ways := range patterns {
		for _, way := range ways {
			list[word] = append(list[word], regexp.MustCompile(`^`+blank+`*`+word+blank+`+`+parts.Replace(way)+blank+`*$`))
		}
	}
	return list
}()

var firstWord = regexp.MustCompile(`^[\t\r ]*([^\t\r ]*)`)

// secondRead reads a script a second time; beside a refusal it tells the place and the reason.
func secondRead(text string) (script, int, error) {
	var s script
	lines := strings.SplitAfter(text, "\n")
	if len(text) > 65536 {
		return script{}, 0, api.Errno(363)
	}
	if len(lines) > 2000 {
		return script{}, 2001, api.Errno(363)
	}
	for i, l := range lines {
		l = strings.TrimSuffix(l, "\n")
		word := firstWord.FindStringSubmatch(l)[1]
		if word == "" || word[0] == '#' {
			continue
		}
		if why := s.line(i+1, word, l); why != nil {
			return script{}, i + 1, why
		}
	}
	if s.head == 0 {
		return script{}, 0, api.Errno(364)
	}
	return s, 0, nil
}

// line reads one line.
func (s *script) line(at int, word, l string) error {
	ways, known := lineForms[word]
	late := len(s.events) > 0 && (word == "account" || word == "client")
	switch {
	case !known:
		return api.Errno(360)
	case (word == "cluster") != (s.head == 0), late:
		return api.Errno(362)
	}
	for i, way := range ways {
		if found := way.FindStringSubmatch(l); found != nil {
			return s.found(at, word, strings.ReplaceAll(patterns[word][i], " ", ""), found[1:])
		}
	}
	return api.Errno(361)
}

// found takes over a line of which every word has its form.
func (s *script) found(at int, word, way string, words []string) error {
	kindsOf := regexp.MustCompile(`\([^)]*\)`).ReplaceAllString(way, "w")
	var numbers []uint64
	var e api.Event
	cmd, quoted := "", ""
	for i, w := range words {
		n, _ := new(big.Int).SetString(w, 10)
		switch kindsOf[i] {
		case 'N', 'I':
			limit := map[byte]uint{'N': 64, 'I': 63}[kindsOf[i]]
			if n.BitLen() > int(limit) {
				return api.Errno(361)
			}
			numbers = append(numbers, n.Uint64())
		case 'H':
			e.Data, _ = hex.DecodeString(strings.Trim(w, "-"))
			if len(e.Data) == 0 {
				e.Data = nil
			}
		case '*':
			for _, tear := range strings.Fields(w) {
				var x api.WalTear
				tear = strings.Replace(tear, ":-", ":-1", 1)
				if n, err := fmt.Sscanf(tear, "%d:%d:%d", &x.File, &x.Keep, &x.Flip); n != 3 || err != nil {
					return api.Errno(361) // only by being too great
				}
				e.Tears = append(e.Tears, x)
			}
		case 'w':
			cmd = w
		case 'Q':
			quoted, _ = strconv.Unquote(w)
		}
	}
	return s.take(at, word, cmd, numbers, quoted, e)
}

// take takes over a line's numbers.
func (s *script) take(at int, word, cmd string, n []uint64, quoted string, e api.Event) error {
	switch word {
	case "cluster":
		s.head = at
		s.setup.Config = api.Config{F: int(n[0]), MaxBatch: int(n[1]), Delay: n[2], Window: n[3], Every: n[4], Beat: n[5], Epoch: n[6], EpochMax: n[7], MaxNum: n[8], MaxSlot: n[9]}
		return nil
	case "account":
		s.setup.Accounts = append(s.setup.Accounts, api.Account{ID: n[0], Owner: n[1], Balance: n[2], Cap: n[3]})
		return nil
	case "client":
		s.setup.Clients = append(s.setup.Clients, api.ClientSetup{Id: n[0], Resend: n[1]})
		return nil
	case "deliver", "drop", "copy":
		e.Index = int(n[0])
	case "forge":
		e.Client, e.Node = n[0], int(n[1])
	case "tick":
		if cmd == "all" {
			e.Node, e.Count = -1, n[0]
			break
		}
		e.Node, e.Count = int(n[0]), n[1]
	case "step", "fuse":
		e.Node, e.Count = int(n[0]), n[1]
	case "stop", "restart", "crash":
		e.Node = int(n[0])
	case "again":
		e.Client = n[0]
	case "calm":
		e.Count = n[0]
	case "send":
		e.Client = n[0]
		if cmd != "raw" {
			var err error
			if e.Data, err = deal.Pack(secondCommand(cmd, n[1:], quoted)); err != nil {
				return err
			}
		}
	}
	e.Kind = kinds[word]
	s.events, s.lines = append(s.events, e), append(s.lines, at)
	return nil
}

// secondCommand gives the command of these words.
func secondCommand(word string, n []uint64, quoted string) api.Cmd {
	switch word {
	case "enrol":
		return api.Cmd{Verb: 1, Acct: n[0], Amount: n[1]}
	case "close":
		return api.Cmd{Verb: 2, Acct: n[0]}
	case "transfer":
		return api.Cmd{Verb: 3, Acct: n[0], To: n[1], Amount: n[2]}
	case "open":
		return api.Cmd{Verb: 4, Deal: n[0], Acct: n[1], To: n[2], Arbiter: n[3], Amount: n[4], Due: n[5], Terms: quoted}
	case "calloff":
		return api.Cmd{Verb: 11, Deal: n[0]}
	case "balance":
		return api.Cmd{Verb: 12, Acct: n[0]}
	case "look":
		return api.Cmd{Verb: 13, Deal: n[0]}
	}
	for verb, name := range verbs {
		if name == word {
			return api.Cmd{Verb: api.Verb(verb), Deal: n[0], Amount: n[1]}
		}
	}
	panic(word)
}
