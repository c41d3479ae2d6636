package engine_test

import (
	"strconv"
	"strings"
	"testing"

	"quorum/api"
	"quorum/deal"
	"quorum/engine"
)

// lineCase is a line of an event, and what it is read as.
type lineCase struct {
	line string
	want api.Event
}

// lineCases has every kind of line, at least once.
func lineCases(t testing.TB) []lineCase {
	t.Helper()
	list := []lineCase{
		{"deliver 0", api.Event{Kind: api.EDeliver}},
		{"deliver 12", api.Event{Kind: api.EDeliver, Index: 12}},
		{"drop 9223372036854775807", api.Event{Kind: api.EDrop, Index: 1<<63 - 1}},
		{"copy 7", api.Event{Kind: api.ECopy, Index: 7}},
		{"forge 18446744073709551615 9223372036854775807 00FF1A", api.Event{Kind: api.EForge, Client: most, Node: 1<<63 - 1, Data: []byte{0, 255, 26}}},
		{"forge 0 0 -", api.Event{Kind: api.EForge}},
		{"tick 2 18446744073709551615", api.Event{Kind: api.ETick, Node: 2, Count: most}},
		{"tick all 0", api.Event{Kind: api.ETick, Node: -1}},
		{"tick all 9", api.Event{Kind: api.ETick, Node: -1, Count: 9}},
		{"step 1 10", api.Event{Kind: api.EStep, Node: 1, Count: 10}},
		{"stop 2", api.Event{Kind: api.EStop, Node: 2}},
		{"restart 1", api.Event{Kind: api.ERestart, Node: 1}},
		{"crash 1", api.Event{Kind: api.ECrash, Node: 1}},
		{"crash 1 3:10:- 4:0:7", api.Event{Kind: api.ECrash, Node: 1, Tears: []api.WalTear{{File: 3, Keep: 10, Flip: -1}, {File: 4, Flip: 7}}}},
		{"fuse 2 3", api.Event{Kind: api.EFuse, Node: 2, Count: 3}},
		{"fuse 0 0 0:0:0", api.Event{Kind: api.EFuse, Tears: []api.WalTear{{}}}},
		{"fuse 1 18446744073709551615 18446744073709551615:9223372036854775807:9223372036854775807", api.Event{Kind: api.EFuse, Node: 1, Count: most, Tears: []api.WalTear{{File: most, Keep: 1<<63 - 1, Flip: 1<<63 - 1}}}},
		{"again 256", api.Event{Kind: api.EAgain, Client: 256}},
		{"calm 18446744073709551615", api.Event{Kind: api.ECalm, Count: most}},
		{"send 7 raw -", api.Event{Kind: api.ESend, Client: 7}},
		{"send 7 raw 00", api.Event{Kind: api.ESend, Client: 7, Data: []byte{0}}},
		{"send 7 raw 0123456789ABCDEF", api.Event{Kind: api.ESend, Client: 7, Data: []byte{1, 0x23, 0x45, 0x67, 0x89, 0xAB, 0xCD, 0xEF}}},
	}
	for _, c := range commandCases() {
		list = append(list, lineCase{"send 300 " + c.words, api.Event{Kind: api.ESend, Client: 300, Data: packed(t, c.want)}})
	}
	return list
}

// commandCase is a command in words, and as data.
type commandCase struct {
	words string
	want  api.Cmd
}

// commandCases has every command, and every kind of terms.
func commandCases() []commandCase {
	open := api.Cmd{Verb: api.VOpen, Deal: 7, Acct: 1, To: 2, Arbiter: 3, Amount: 50, Due: 900}
	with := func(terms string) api.Cmd {
		c := open
		c.Terms = terms
		return c
	}
	all := "" // every byte of a text that stands for itself
	for c := byte(32); c < 127; c++ {
		if c != '"' && c != '\\' {
			all += string(rune(c))
		}
	}
	return []commandCase{
		{"enrol 5 600", api.Cmd{Verb: api.VEnrol, Acct: 5, Amount: 600}},
		{"enrol 0 18446744073709551615", api.Cmd{Verb: api.VEnrol, Amount: most}},
		{"close 5", api.Cmd{Verb: api.VClose, Acct: 5}},
		{"transfer 1 2 10", api.Cmd{Verb: api.VTransfer, Acct: 1, To: 2, Amount: 10}},
		{"open 7 1 2 3 50 900", open},
		{`open 7 1 2 3 50 900 "x"`, with("x")},
		{`open 7 1 2 3 50 900 "on release {\n\tpay held to seller;\n}\n"`, with("on release {\n\tpay held to seller;\n}\n")},
		{`open 7 1 2 3 50 900 " a  b "`, with(" a  b ")},
		{`open 7 1 2 3 50 900 "\"\\\""`, with(`"\"`)},
		{`open 7 1 2 3 50 900 "\\"`, with(`\`)},
		{`open 7 1 2 3 50 900 "#\\n"`, with(`#\n`)},
		{`open 7 1 2 3 50 900 "\x00\x0D\x7F"`, with("\x00\r\x7F")},
		{`open 7 1 2 3 50 900 "\xC3\xA9\xE2\x82\xAC"`, with("é€")},
		{`open 7 1 2 3 50 900 "` + all + `"`, with(all)},
		{`open 7 1 2 3 50 900 "` + strings.Repeat("x", api.MaxTerms) + `"`, with(strings.Repeat("x", api.MaxTerms))},
		{"open 18446744073709551615 4 18446744073709551614 6 18446744073709551613 8", api.Cmd{Verb: api.VOpen, Deal: most, Acct: 4, To: most - 1, Arbiter: 6, Amount: most - 2, Due: 8}},
		{"fund 7 0", api.Cmd{Verb: api.VFund, Deal: 7}},
		{"release 7 1", api.Cmd{Verb: api.VRelease, Deal: 7, Amount: 1}},
		{"dispute 7 2", api.Cmd{Verb: api.VDispute, Deal: 7, Amount: 2}},
		{"arbitrate 7 3", api.Cmd{Verb: api.VArbitrate, Deal: 7, Amount: 3}},
		{"refund 7 4", api.Cmd{Verb: api.VRefund, Deal: 7, Amount: 4}},
		{"expire 7 5", api.Cmd{Verb: api.VExpire, Deal: 7, Amount: 5}},
		{"calloff 7", api.Cmd{Verb: api.VCallOff, Deal: 7}},
		{"balance 5", api.Cmd{Verb: api.VBalance, Acct: 5}},
		{"look 7", api.Cmd{Verb: api.VLook, Deal: 7}},
	}
}

func TestP18_1Lines(t *testing.T) {
	var text string
	var all []api.Event
	for _, c := range lineCases(t) {
		setup, events := parsed(t, house+c.line)
		if !same(setup, houseSetup()) || !same(events, []api.Event{c.want}) {
			t.Errorf("%s: %+v, want %+v", c.line, events, c.want)
		}
		text, all = text+c.line+"\n", append(all, c.want)
	}
	if _, events := parsed(t, house+text); !same(events, all) {
		t.Errorf("all lines: %+v, want %+v", events, all)
	}
}

func TestP18_1Setup(t *testing.T) {
	for text, want := range map[string]api.Setup{
		"cluster 0 0 0 0 0 0 0 0 0 0": {},
		"cluster 1 2 3 4 5 6 7 8 9 10": {
			Config: api.Config{F: 1, MaxBatch: 2, Delay: 3, Window: 4, Every: 5, Beat: 6, Epoch: 7, EpochMax: 8, MaxNum: 9, MaxSlot: 10}},
		"cluster 9223372036854775807 9223372036854775807 18446744073709551615 18446744073709551615 18446744073709551615 18446744073709551615 18446744073709551615 18446744073709551615 18446744073709551615 18446744073709551615": {
			Config: api.Config{F: 1<<63 - 1, MaxBatch: 1<<63 - 1, Delay: most, Window: most, Every: most, Beat: most, Epoch: most, EpochMax: most, MaxNum: most, MaxSlot: most}},
		"cluster 0 0 0 0 0 0 0 0 0 0\naccount 4 3 2 1\nclient 9 8\naccount 4 3 2 1\nclient 0 18446744073709551615\nclient 9 8": {
			Accounts: []api.Account{{ID: 4, Owner: 3, Balance: 2, Cap: 1}, {ID: 4, Owner: 3, Balance: 2, Cap: 1}},
			Clients:  []api.ClientSetup{{Id: 9, Resend: 8}, {Resend: most}, {Id: 9, Resend: 8}}},
	} {
		setup, events := parsed(t, text)
		if !same(setup, want) || events != nil {
			t.Errorf("%s: %+v %+v, want %+v", text, setup, events, want)
		}
	}
}

// Blanks of all three kinds, remarks and empty lines may stand anywhere.
func TestP18_1Blanks(t *testing.T) {
	for _, c := range lineCases(t) {
		for _, blank := range []string{"  ", "\t", "\r", " \t\r "} {
			name, terms, quoted := strings.Cut(c.line, `"`)
			line := blank + strings.ReplaceAll(name, " ", blank)
			if quoted {
				line += `"` + terms
			}
			text := blank + "\n# a remark \"\n" + house + "\r\n" + blank + "#\"x\"y\n\n#\n" + line + blank + "\n" + blank + "\n# send 256\n" + blank
			setup, events := parsed(t, text)
			if !same(setup, houseSetup()) || !same(events, []api.Event{c.want}) {
				t.Errorf("%q: %+v, want %+v", line, events, c.want)
			}
		}
	}
	crlf := strings.ReplaceAll(house+"calm 1\n", "\n", "\r\n")
	if setup, events := parsed(t, crlf); !same(setup, houseSetup()) || len(events) != 1 {
		t.Errorf("lines that end with two bytes: %+v %+v", setup, events)
	}
}

func TestP18_1Long(t *testing.T) {
	remark := func(n int) string { return "#" + strings.Repeat("x", n-1) }
	fits := head + remark(65536-len(head))
	if setup, events := parsed(t, fits); setup.Config.F != 1 || events != nil {
		t.Errorf("65536 bytes: %+v %+v", setup, events)
	}
	refuses(t, "65537 bytes", fits+"x", api.ErrEngineLong, 0)
	refuses(t, "a million bytes", strings.Repeat("x", 1000000), api.ErrEngineLong, 0)
	refuses(t, "65537 bytes, of which the first are wrong", "hello\n"+fits, api.ErrEngineLong, 0)

	if setup, _ := parsed(t, head+strings.Repeat("\n", 1998)); setup.Config.F != 1 {
		t.Errorf("2000 lines: %+v", setup)
	}
	if _, events := parsed(t, head+strings.Repeat("calm 0\n", 1998)+"calm 9"); len(events) != 1999 || events[1998].Count != 9 {
		t.Errorf("2000 lines: %d events", len(events))
	}
	refuses(t, "2001 lines", head+strings.Repeat("\n", 1999), api.ErrEngineLong, 2001)
	refuses(t, "2001 lines, the last an event", head+strings.Repeat("calm 0\n", 1999)+"calm 0", api.ErrEngineLong, 2001)
	refuses(t, "2001 lines, of which the first is wrong", "hello"+strings.Repeat("\n", 2000), api.ErrEngineLong, 2001)
	refuses(t, "2001 empty lines", strings.Repeat("\n", 2000), api.ErrEngineLong, 2001)
	refuses(t, "2000 empty lines", strings.Repeat("\n", 1999), api.ErrEngineHead, 0)
	refuses(t, "65536 line feeds", strings.Repeat("\n", 65536), api.ErrEngineLong, 2001)
	refuses(t, "65537 line feeds", strings.Repeat("\n", 65537), api.ErrEngineLong, 0)
}

func TestP18_1Head(t *testing.T) {
	for _, text := range []string{"", "\n", " ", "\t\r \n", "#", "# cluster 1\n\n#", "\n\n\n#\n \n", "#\"", "\r"} {
		refuses(t, strconv.Quote(text), text, api.ErrEngineHead, 0)
	}
}

func TestP18_1Line(t *testing.T) {
	for _, word := range []string{"hello", "Cluster", "cluste", "clusters", "\"cluster\"", "\"", "\"calm", "\"a\"b", "\"#\"", "send#", "x#", "-", "1", "raw", "open", "all", "CALM", "cal", "calmm", "calm\x00", "calm\x0b", "\x0ccalm", "calm\xff", "\xffcalm", "\u00a0calm", "é", "calm\"", "c\"alm 1\"", "accounts", "ticks", "deliver:", "0", "\x00", "\\", "'calm'", "tick,0,1"} {
		for _, behind := range []string{"", " 1", " 0 1", " \"", " 1 2 3 4 5 6 7 8 9 10"} {
			line := word + behind
			refuses(t, "ahead of all: "+line, line, api.ErrEngineLine, 1)
			refuses(t, "behind the head: "+line, head+"\t "+line, api.ErrEngineLine, 2)
			refuses(t, "in the midst: "+line, house+"# x\ncalm 1\n"+line+"\n"+head+"calm", api.ErrEngineLine, houseLines+3)
		}
	}
}

func TestP18_1Order(t *testing.T) {
	setup := []string{"account 1 2 3 4", "client 256 5"}
	var events []string
	for _, c := range lineCases(t) {
		events = append(events, c.line)
	}
	for _, line := range append(setup, events...) {
		refuses(t, "ahead of the head: "+line, line, api.ErrEngineOrder, 1)
		refuses(t, "ahead of a head that comes: "+line, "\n#\n"+line+"\n"+head, api.ErrEngineOrder, 3)
		word := strings.Fields(line)[0]
		for _, bad := range []string{word, word + " x", word + " \"", line + " \"a"} { // the order is looked at ahead of the words
			refuses(t, "ahead of the head, and wrong: "+bad, bad, api.ErrEngineOrder, 1)
		}
		refuses(t, "a second head behind "+line, head+line+"\n"+head, api.ErrEngineOrder, 3)
		refuses(t, "a second head that is wrong behind "+line, head+line+"\ncluster x", api.ErrEngineOrder, 3)
	}
	refuses(t, "a second head", head+head, api.ErrEngineOrder, 2)
	refuses(t, "a second head that is wrong", head+"\ncluster", api.ErrEngineOrder, 3)
	for _, line := range setup {
		for _, event := range events {
			refuses(t, line+" behind "+event, house+event+"\n\n"+line, api.ErrEngineOrder, houseLines+3)
			refuses(t, line+" and more behind "+event, house+event+"\n"+line+" x\"", api.ErrEngineOrder, houseLines+2)
		}
	}
}

// wrongNumbers are no numbers, and no other words that may stand in a number's place.
func wrongNumbers() []string {
	return []string{"00", "01", "007", "-1", "+1", "1.0", "1e3", "0x1", "1_000", "x", "1x", "x1", "18446744073709551616", "99999999999999999999", "184467440737095516150", strings.Repeat("9", 400), strings.Repeat("0", 400), "--", "\"1\"", "\"", "\"1", "'1'", "1,", "١", "1\x00", "\xff", "all1", "#", "1#", "1:", ":", "1:2:3:4"}
}

// Every number of every line, turned into what is none, or is too great.
func TestP18_1Numbers(t *testing.T) {
	lines := []string{"cluster 1 4 0 4 2 3 20 80 1000 1000", "account 1 2 3 4", "client 256 5"}
	for _, c := range lineCases(t) {
		lines = append(lines, c.line)
	}
	for _, line := range lines {
		words := strings.Fields(strings.SplitN(line, `"`, 2)[0])
		tail := line[len(strings.Join(words, " ")):]
		for at, word := range words {
			if _, err := strconv.ParseUint(word, 10, 64); err != nil || words[max(at-1, 0)] == "raw" || words[0] == "forge" && at == 3 {
				continue
			}
			ahead := strings.Join(append(append([]string{}, words[:at]...), ""), " ")
			behind := strings.Join(append([]string{""}, words[at+1:]...), " ") + tail
			for _, bad := range wrongNumbers() {
				text := ahead + bad + behind
				place := 1
				if words[0] != "cluster" {
					text, place = head+text, 2
				}
				refuses(t, text, text, api.ErrEngineWord, place)
			}
		}
	}
}

// What goes into an int may be up to 2^63 - 1, everything else up to 2^64 - 1.
func TestP18_1Greatest(t *testing.T) {
	for form, ints := range map[string]bool{
		"cluster % 4 0 4 2 3 20 80 1000 1000": true, "cluster 1 % 0 4 2 3 20 80 1000 1000": true, "cluster 1 4 % 4 2 3 20 80 1000 1000": false,
		"cluster 1 4 0 % 2 3 20 80 1000 1000": false, "cluster 1 4 0 4 % 3 20 80 1000 1000": false, "cluster 1 4 0 4 2 % 20 80 1000 1000": false,
		"cluster 1 4 0 4 2 3 % 80 1000 1000": false, "cluster 1 4 0 4 2 3 20 % 1000 1000": false, "cluster 1 4 0 4 2 3 20 80 % 1000": false, "cluster 1 4 0 4 2 3 20 80 1000 %": false,
		"account % 2 3 4": false, "account 1 % 3 4": false, "account 1 2 % 4": false, "account 1 2 3 %": false, "client % 5": false, "client 256 %": false,
		"deliver %": true, "drop %": true, "copy %": true, "forge % 0 -": false, "forge 256 % -": true, "tick % 1": true, "tick 0 %": false, "tick all %": false, "step % 1": true, "step 0 %": false,
		"stop %": true, "restart %": true, "crash %": true, "crash % 1:2:3": true, "crash 0 %:2:3": false, "crash 0 1:%:3": true, "crash 0 1:2:%": true, "crash 0 1:2:- 1:%:-": true,
		"fuse % 1": true, "fuse 0 %": false, "fuse 0 1 %:2:3": false, "fuse 0 1 1:%:-": true, "fuse 0 1 1:2:%": true, "send % raw -": false, "send % look 1": false, "again %": false, "calm %": false,
		"send 1 enrol % 2": false, "send 1 enrol 2 %": false, "send 1 open % 1 2 3 4 5": false, "send 1 open 0 1 2 3 4 %": false, "send 1 expire 1 %": false,
	} {
		for n, ok := range map[string]bool{"0": true, "9223372036854775807": true, "9223372036854775808": !ints, "18446744073709551615": !ints, "18446744073709551616": false} {
			line := strings.Replace(form, "%", n, 1)
			text, place := head+line, 2
			if strings.HasPrefix(line, "cluster") {
				text, place = line, 1
			}
			if !ok {
				refuses(t, line, text, api.ErrEngineWord, place)
			} else if _, _, err := engine.Parse(text); err != nil {
				t.Errorf("%s: %v", line, err)
			}
		}
	}
}

// Every line without its last word, and with one more; and what else can't stand in it.
func TestP18_1Words(t *testing.T) {
	for _, line := range []string{"cluster 1 4 0 4 2 3 20 80 1000 1000", "account 1 2 3 4", "client 256 5"} {
		ahead, at := head, 2
		if strings.HasPrefix(line, "cluster") {
			ahead, at = "", 1
		}
		for words := strings.Fields(line); len(words) > 1; {
			words = words[:len(words)-1]
			refuses(t, "too few words", ahead+strings.Join(words, " "), api.ErrEngineWord, at)
		}
		for _, more := range []string{"0", "-", "x", "#", "# a remark", "\"\"", "\"x\"", "\"", "1:2:3"} {
			refuses(t, "a word more", ahead+line+" "+more, api.ErrEngineWord, at)
		}
	}
	for _, c := range lineCases(t) {
		words := strings.Fields(strings.SplitN(c.line, `"`, 2)[0])
		for n := range words {
			few := strings.Join(words[:n], " ")
			if n == 0 || n > 1 && words[0] == "crash" || n > 2 && words[0] == "fuse" {
				continue
			}
			refuses(t, "too few words: "+few, head+few, api.ErrEngineWord, 2)
		}
		more := []string{"0", "-", "x", "#", "# a remark", "\"\"", "\"x", "\"", "\"x\" \"x\""}
		if !strings.HasPrefix(c.line, "send 300 open ") {
			more = append(more, "\"x\"")
		}
		if words[0] != "crash" && words[0] != "fuse" {
			more = append(more, "1:2:3")
		}
		for _, word := range more {
			refuses(t, "a word more: "+c.line+" "+word, house+c.line+" "+word, api.ErrEngineWord, houseLines+1)
		}
	}
	for _, line := range []string{
		"deliver all", "step all 1", "stop all", "restart all", "crash all", "fuse all 1", "forge 256 all -", "tick ALL 1", "tick \"all\" 1", "tick alls 1", "tick all all",
		"crash 0 1", "crash 0 1:2", "crash 0 1:2:3:4", "crash 0 :2:3", "crash 0 1::3", "crash 0 1:2:", "crash 0 -:2:3", "crash 0 1:-:3", "crash 0 1:2:--", "crash 0 1:2:-1", "crash 0 1:2:3,", "crash 0 1:2:3 4", "crash 0 1:2:3 x", "crash 0 1 : 2 : 3", "crash 0 01:2:3", "crash 0 1:02:3", "crash 0 1:2:03", "crash 0 1:2:00", "crash 0 ::", "crash 0 1:2:all", "crash 0 \"1:2:3\"", "crash 0 1:2:3:", "crash 0 1:2:3 \"", "fuse 0 1:2:3", "fuse 0 1 1:2", "fuse 0 1 1:2:3 1",
		"forge 256 0", "forge 256 0 0", "forge 256 0 0a", "forge 256 0 0A0", "forge 256 0 0G", "forge 256 0 --", "forge 256 0 -0", "forge 256 0 0-", "forge 256 0 00 00", "forge 256 0 \"00\"", "forge 256 0 0x00", "forge 256 0 é", "forge 256 0 a0", "forge 256 0 @0", "forge 256 0 :0", "forge 256 0 /0",
		"send", "send 1", "send 1 raw", "send 1 raw 0", "send 1 raw aa", "send 1 raw 00 00", "send 1 raw \"\"", "send 1 raw --", "send raw 00", "send 1 RAW 00", "send 1 hello", "send 1 hello 1 2", "send 1 \"raw\" 00", "send 1 call-off 7", "send 1 callof 7", "send 1 Look 7", "send 1 send 1 look 7", "send 1 calm 7", "send 1 0", "send 1 -",
	} {
		refuses(t, line, head+line, api.ErrEngineWord, 2)
		refuses(t, line+", and worse behind it", head+"calm 1\n"+line+"\nhello\n"+head+"calm", api.ErrEngineWord, 3)
	}
}

func TestP18_1Quoted(t *testing.T) {
	open := head + "send 256 open 7 1 2 3 50 900 "
	for _, bad := range []string{
		`""`, `"`, `"a`, `"a\`, `"a\"`, `"a\\\"`, `"\`, `a"`, `a"b"`, `'a'`, `a`, `"a"b`, `"a""b"`, `"a"\`, `"a"#`, `"a"-`, `"a"1`, "\"a\"\x0b", "\"a\"\x00", "\"a\"\xff",
		`"\q"`, `"\a"`, `"\r"`, `"\0"`, `"\N"`, `"\T"`, `"\X41"`, `"\'"`, `"\ "`, `"\x"`, `"\x4"`, `"\x4g"`, `"\xg4"`, `"\xaf"`, `"\xAf"`, `"\x 4"`, `"\x4 "`, `"\x-1"`, `"\u0041"`, `"\x4"1"`, `"\\\q"`, `"abc\xG0def"`,
		"\"\t\"", "\"\r\"", "\"\x00\"", "\"\x1f\"", "\"\x7f\"", "\"\x80\"", "\"\xff\"", "\"é\"", "\"a\tb\"", "\"ab\r\"",
		`"a" "b"`, `"a" ""`, `"a" 1`, `1 "a"`, `"a" "`, `""a`, `"" "a"`,
	} {
		refuses(t, "open "+bad, open+bad, api.ErrEngineWord, 2)
		refuses(t, "open "+bad+" and a line", open+bad+"\ncalm 1", api.ErrEngineWord, 2)
	}
	refuses(t, "a quoted word over two lines", open+"\"a\nb\"", api.ErrEngineWord, 2)
	refuses(t, "a pair over two lines", open+"\"a\\\nb\"", api.ErrEngineWord, 2)
	for c := range 256 {
		text := open + `"` + string([]byte{byte(c)}) + `"`
		pair := open + `"\` + string([]byte{byte(c)}) + `"`
		if c < 32 || c > 126 || c == '"' || c == '\\' {
			refuses(t, "byte "+strconv.Itoa(c), text, api.ErrEngineWord, 2)
		} else if _, events := parsed(t, text); !strings.HasSuffix(string(events[0].Data), "\x01"+string(rune(c))) {
			t.Errorf("byte %d: %x", c, events[0].Data)
		}
		if stands, ok := map[byte]string{'"': `"`, '\\': `\`, 'n': "\n", 't': "\t"}[byte(c)]; !ok {
			refuses(t, "pair "+strconv.Itoa(c), pair, api.ErrEngineWord, 2)
		} else if _, events := parsed(t, pair); !strings.HasSuffix(string(events[0].Data), "\x01"+stands) {
			t.Errorf("pair %d: %x", c, events[0].Data)
		}
		number := open + `"\x` + strings.ToUpper(strconv.FormatInt(int64(c)+256, 16)[1:]) + `"`
		if c > 127 {
			refused(t, number, string([]byte{byte(c)}))
		} else if _, events := parsed(t, number); !strings.HasSuffix(string(events[0].Data), "\x01"+string(rune(c))) {
			t.Errorf("number %d: %x", c, events[0].Data)
		}
	}
}

// refused wants the last line of a text to be refused with what layer 5 says to these terms.
func refused(t *testing.T, text, terms string) {
	t.Helper()
	_, why := deal.Pack(api.Cmd{Verb: api.VOpen, Deal: 7, Acct: 1, To: 2, Arbiter: 3, Amount: 50, Due: 900, Terms: terms})
	if why == nil {
		t.Fatalf("terms %q are packed", terms)
	}
	refuses(t, "terms", text, why, 1+strings.Count(text, "\n"))
}

func TestP18_1Pack(t *testing.T) {
	open := "send 256 open 7 1 2 3 50 900 "
	refused(t, head+open+`"`+strings.Repeat("x", 513)+`"`, strings.Repeat("x", 513))
	refused(t, house+"calm 1\n\n"+open+`"`+strings.Repeat("\\\"", 513)+`"`, strings.Repeat("\"", 513))
	refused(t, house+open+`"\xFF"`, "\xFF")
	refused(t, house+open+`"a\xC3"`, "a\xC3")
	refused(t, house+open+`"`+strings.Repeat("\\xFF", 513)+`"`, strings.Repeat("\xFF", 513))
	_, _, err := engine.Parse(head + open + `"\xFF"`)
	isFault(t, "not UTF-8", err, &api.Fault{Layer: "deal", At: 7, Err: &api.Fault{Layer: "wire", At: 8, Err: api.ErrWireText}}, 2)
	// That a word is wrong comes first.
	refuses(t, "too long, and a word more", head+open+`"`+strings.Repeat("x", 513)+`" 1`, api.ErrEngineWord, 2)
	refuses(t, "not UTF-8, and not ended", head+open+`"\xFF`, api.ErrEngineWord, 2)
	refuses(t, "not UTF-8, and a number that is none", head+`send 256 open 7 1 2 3 50 x "\xFF"`, api.ErrEngineWord, 2)
	refuses(t, "not UTF-8, and a client that is none", head+`send x open 7 1 2 3 50 900 "\xFF"`, api.ErrEngineWord, 2)
	refuses(t, "not UTF-8, ahead of the head", open+`"\xFF"`, api.ErrEngineOrder, 1)
	// The first line counts.
	refuses(t, "behind a line that is wrong", head+"calm x\n"+open+`"\xFF"`, api.ErrEngineWord, 2)
	refused(t, strings.TrimSuffix(head, "\n")+"\n"+open+`"\xFF"`, "\xFF")
	_, _, err = engine.Parse(head + open + "\"\\xFF\"\nhello")
	isFault(t, "ahead of a line that is wrong", err, &api.Fault{Layer: "deal", At: 7, Err: &api.Fault{Layer: "wire", At: 8, Err: api.ErrWireText}}, 2)
}

// A script of as many lines as there may be, with one that is wrong at every place.
func TestP18_1Place(t *testing.T) {
	for at := 2; at <= 2000; at += 37 {
		lines := strings.Split(strings.Repeat("calm 1\n", 1999)+"calm 1", "\n")
		lines[0], lines[at-1] = strings.TrimSuffix(head, "\n"), "calm one"
		refuses(t, "line "+strconv.Itoa(at), strings.Join(lines, "\n"), api.ErrEngineWord, at)
	}
}
