package terms_test

import (
	"slices"
	"strings"
	"testing"

	"quorum/api"
	"quorum/terms"
)

// told has another value in each field.
var told = api.TermsEnv{Caller: 2, Amount: 120, Held: 100, Now: 9, Opened: 4, Due: 20, Asked: 7, Disputed: true}

// runs wants Run to answer that outcome.
func runs(t *testing.T, list []api.TermsNode, event int, env api.TermsEnv, fuel uint64, want api.TermsOutcome) {
	t.Helper()
	was := slices.Clone(list)
	got, err := terms.Run(list, event, env, fuel)
	if err != nil || got != want {
		t.Errorf("Run of %v for %d with %d: %+v, %v, want %+v", list, event, fuel, got, err, want)
	}
	if !slices.Equal(list, was) {
		t.Errorf("Run has changed the list")
	}
}

// ends wants a rule for fund with these statements to end so.
func ends(t *testing.T, body string, fuel uint64, want api.TermsOutcome) {
	t.Helper()
	got, err := terms.Run(onFund(t, body), api.EvFund, told, fuel)
	if err != nil || got != want {
		t.Errorf("%s with %d: %+v, %v, want %+v", body, fuel, got, err, want)
	}
}

func end(e api.TermsEnd, left uint64) api.TermsOutcome { return api.TermsOutcome{End: e, Left: left} }

func paid(buyer, seller, arbiter, left uint64) api.TermsOutcome {
	return api.TermsOutcome{Pay: [3]uint64{buyer, seller, arbiter}, Left: left}
}

func failed(code, left uint64) api.TermsOutcome {
	return api.TermsOutcome{End: api.EndFail, Fail: code, Left: left}
}

func TestP3_6Event(t *testing.T) {
	list := read(t, "on fund { done; } on expire { done; }")
	for _, e := range []int{-1, 6, 7, 1 << 40, -1 << 63, 1<<63 - 1} {
		out, err := terms.Run(list, e, told, 5)
		if out != (api.TermsOutcome{}) {
			t.Errorf("event %d: %v beside the fault", e, out)
		}
		isFault(t, "an event that is none", err, api.ErrTermsEvent, 0)
	}
	_, err := terms.Run(nil, 6, told, 5)
	isFault(t, "neither a tree nor an event", err, api.ErrTermsTree, 0)
	_, err = terms.Run(fund(1), -1, told, 5)
	isFault(t, "neither a tree nor an event", err, api.ErrTermsTree, 3)
}

func TestP3_7Rule(t *testing.T) {
	list := read(t, "on fund { fail 1; } on expire { fail 2; } on fund { fail 3; } on release {} on expire { done; }")
	runs(t, list, api.EvFund, told, 5000, failed(1, 999))
	runs(t, list, api.EvExpire, told, 10, failed(2, 9))
	runs(t, list, api.EvRelease, told, 10, end(api.EndDone, 10))
	for _, e := range []int{api.EvDispute, api.EvArbitrate, api.EvRefund} {
		for fuel, left := range map[uint64]uint64{0: 0, 7: 7, 999: 999, 1000: 1000, 1001: 1000, most: 1000} {
			runs(t, list, e, told, fuel, end(api.EndNone, left))
		}
	}
	var all strings.Builder
	for i, w := range strings.Fields("expire refund arbitrate dispute release fund") {
		all.WriteString("on " + w + " { fail " + decimal(uint64(6-i)) + "; }")
	}
	for e := range 6 {
		runs(t, read(t, all.String()), e, told, 3, failed(uint64(e)+1, 2))
	}
}

func TestP3_7Fuel(t *testing.T) {
	for fuel, left := range map[uint64]uint64{1: 0, 2: 1, 999: 998, 1000: 999, 1001: 999, most: 999, 1 << 63: 999} {
		ends(t, "done;", fuel, end(api.EndDone, left))
	}
	ends(t, "", 0, end(api.EndDone, 0))
	ends(t, "while true {}", 1000, end(api.EndFuel, 0))
	ends(t, "while true {}", most, end(api.EndFuel, 0))
	// the greatest number of rounds: a step for the while, then one for each test
	ends(t, "let n = 0; while n < 332 { set n = n + 1; set n = n + 0; } pay n - 332 to 1;", 1000, end(api.EndDone, 0))
	ends(t, "let n = 0; while n < 333 { set n = n + 1; set n = n + 0; }", 1000, end(api.EndFuel, 0))
	// each has just so many steps: with fewer of them it runs dry, at whatever place that is
	for _, c := range []struct {
		body  string
		steps uint64
		want  api.TermsOutcome
	}{
		{"done;", 1, end(api.EndDone, 0)}, {"fail 5;", 1, failed(5, 0)}, {"let a = 1;", 1, end(api.EndDone, 0)}, {"let a = 1; set a = 2;", 2, end(api.EndDone, 0)}, {"let a = min(1, 2) + 3 * share(1, 2, 3);", 1, end(api.EndDone, 0)},
		{"require true, 4;", 1, end(api.EndDone, 0)}, {"require false, 4;", 1, failed(4, 0)}, {"pay 1 to 2;", 1, paid(0, 1, 0, 0)}, {"pay 1 to 2; pay 3 to 1;", 2, paid(3, 1, 0, 0)}, {"break;", 1, end(api.EndStuck, 0)}, {"continue;", 1, end(api.EndStuck, 0)},
		{"if true {}", 1, end(api.EndDone, 0)}, {"if true { done; }", 2, end(api.EndDone, 0)}, {"if false {} else { done; }", 2, end(api.EndDone, 0)}, {"if false {} else if false {} else { done; }", 3, end(api.EndDone, 0)},
		{"while false {}", 2, end(api.EndDone, 0)}, {"while true { break; }", 3, end(api.EndDone, 0)}, {"while true { done; }", 3, end(api.EndDone, 0)}, {"while 1 {}", 2, end(api.EndStuck, 0)}, {"while 1 / 0 == 1 {}", 2, end(api.EndZero, 0)}, {"o: while true { o: while true {} }", 3, end(api.EndStuck, 0)},
		{"let n = 0; while n < 3 { set n = n + 1; }", 1 + 1 + 4 + 3, end(api.EndDone, 0)}, {"let n = 0; while n < 3 { set n = n + 1; continue; }", 1 + 1 + 4 + 6, end(api.EndDone, 0)}, {"let n = 0; while true { set n = n + 1; if n == 2 { break; } }", 1 + 1 + 2 + 5, end(api.EndDone, 0)},
		{"o: while true { while true { break o; } fail 1; } pay 1 to 1;", 6, paid(1, 0, 0, 0)}, {"let n = 0; o: while n < 2 { set n = n + 1; while true { continue o; } }", 1 + 1 + 3 + 8, end(api.EndDone, 0)},
		{"pay 101 to 1;", 1, end(api.EndPot, 0)}, {"pay 1 to 4;", 1, end(api.EndParty, 0)}, {"let x = 0 - 1;", 1, end(api.EndOver, 0)}, {"let x = y;", 1, end(api.EndStuck, 0)}, {"set x = 1;", 1, end(api.EndStuck, 0)}, {"let held = 1;", 1, end(api.EndStuck, 0)},
	} {
		for fuel := range c.steps {
			ends(t, c.body, fuel, end(api.EndFuel, 0))
		}
		want := c.want
		for _, more := range []uint64{0, 1, 5} {
			want.Left = more
			ends(t, c.body, c.steps+more, want)
		}
	}
}

func TestP3_7Let(t *testing.T) {
	stuck := end(api.EndStuck, 8)
	for _, in := range inputNames {
		ends(t, "let "+in+" = 1 / 0;", 9, stuck)
	}
	ends(t, "let a = 1; let a = 1 / 0;", 9, end(api.EndStuck, 7))
	ends(t, "let a = 1; if true { let a = 2; }", 9, end(api.EndStuck, 6))
	ends(t, "if true { let a = 1; } let a = 2; pay a to 1;", 9, paid(2, 0, 0, 5))
	ends(t, "if true { let a = 1; } pay a to 1;", 9, end(api.EndStuck, 6))
	ends(t, "let a = a;", 9, stuck)
	ends(t, "let a = 5; let b = a + 1; pay b to 3;", 9, paid(0, 0, 6, 6))
	ends(t, "let a = true; if a { pay 1 to 1; }", 9, paid(1, 0, 0, 6))
	eight := "let a=1;let b=2;let c=3;let d=4;let e=5;let f=6;let g=7;let h=8;"
	ends(t, eight+"pay a+b+c+d+e+f+g+h to 1;", 20, paid(36, 0, 0, 11))
	ends(t, eight+"let i=1/0;", 20, end(api.EndStuck, 11))
	ends(t, eight+"if true{let i=1;}", 20, end(api.EndStuck, 10))
	ends(t, strings.TrimSuffix(eight, "let h=8;")+"if true{let h=1;}let i=9;pay i to 1;", 20, paid(9, 0, 0, 9))
	// a name is gone with its block, however that is left
	ends(t, "let n = 0; while n < 3 { let a = n; set n = n + 1; } let a = 7; pay a to 2;", 50, paid(0, 7, 0, 50-1-1-4-6-2))
	ends(t, "let n = 0; while n < 3 { let a = n; set n = n + 1; continue; } pay n to 2;", 50, paid(0, 3, 0, 50-1-1-4-9-1))
	ends(t, "while true { let a = 1; break; } pay a to 1;", 50, end(api.EndStuck, 50-1-1-2-1))
	ends(t, "while true { let a = 1; break; } let a = 2; pay a to 1;", 50, paid(2, 0, 0, 50-1-1-2-2))
	ends(t, "o: while true { let a = 1; while true { let b = 2; break o; } } let b = 3; let a = 4; pay a * b to 1;", 50, paid(12, 0, 0, 50-2-1-2-2-3))
	ends(t, "let n = 0; o: while n < 2 { let a = 1; set n = n + 1; while true { let b = 2; if true { let c = 3; continue o; } } } pay n to 1;", 50, paid(2, 0, 0, 50-1-1-3-2*8-1))
}

func TestP3_7Set(t *testing.T) {
	for _, in := range inputNames {
		ends(t, "set "+in+" = 1 / 0;", 9, end(api.EndStuck, 8))
	}
	ends(t, "set a = 1 / 0;", 9, end(api.EndStuck, 8))
	ends(t, "let a = 1; set b = 1 / 0;", 9, end(api.EndStuck, 7))
	ends(t, "if true { let a = 1; } set a = 1 / 0;", 9, end(api.EndStuck, 6))
	ends(t, "let a = 1; set a = true;", 9, end(api.EndStuck, 7))
	ends(t, "let a = true; set a = 1;", 9, end(api.EndStuck, 7))
	ends(t, "let a = 1; set a = 1 / 0;", 9, end(api.EndZero, 7))
	ends(t, "let a = 1; set a = a + 1; set a = a * 10; pay a to 1;", 9, paid(20, 0, 0, 5))
	ends(t, "let a = false; set a = not a; require a, 1; set a = false; require a, 2;", 9, failed(2, 4))
	ends(t, "let a = 1; if true { set a = 2; } else { set a = 3; } pay a to 1;", 9, paid(2, 0, 0, 5))
	ends(t, "let a = 1; let b = a; set a = 9; pay b to 1; pay a to 2;", 9, paid(1, 9, 0, 4))
}

func TestP3_7IfAndRequire(t *testing.T) {
	ends(t, "if 1 { done; }", 9, end(api.EndStuck, 8))
	ends(t, "if held {} else { done; }", 9, end(api.EndStuck, 8))
	ends(t, "if true { pay 1 to 1; } else { pay 1 to 2; }", 9, paid(1, 0, 0, 7))
	ends(t, "if false { pay 1 to 1; } else { pay 1 to 2; }", 9, paid(0, 1, 0, 7))
	ends(t, "if false { pay 1 to 1; } pay 1 to 3;", 9, paid(0, 0, 1, 7))
	ends(t, "if false {} else if true { pay 1 to 1; } else { pay 1 to 2; }", 9, paid(1, 0, 0, 6))
	ends(t, "require 1, 3;", 9, end(api.EndStuck, 8))
	ends(t, "require true, 3; pay 1 to 1;", 9, paid(1, 0, 0, 7))
	ends(t, "pay 1 to 1; require false, 999;", 9, failed(999, 7))
	ends(t, "pay 1 to 1; fail 1;", 9, failed(1, 7))
	ends(t, "pay 1 to 1; done; pay 1 to 1; fail 1;", 9, paid(1, 0, 0, 7))
	ends(t, "if true { if true { done; } fail 1; } fail 2;", 9, end(api.EndDone, 6))
	ends(t, "while true { if true { pay 2 to 2; done; } }", 9, paid(0, 2, 0, 4))
}

func TestP3_7Loops(t *testing.T) {
	ends(t, "while 1 {}", 9, end(api.EndStuck, 7))
	ends(t, "while false { fail 1; }", 9, end(api.EndDone, 7))
	ends(t, "break;", 9, end(api.EndStuck, 8))
	ends(t, "continue;", 9, end(api.EndStuck, 8))
	ends(t, "break o;", 9, end(api.EndStuck, 8))
	ends(t, "while true { break o; }", 9, end(api.EndStuck, 6))
	ends(t, "o: while true { while true { continue p; } }", 9, end(api.EndStuck, 4))
	ends(t, "o: while false {} continue o;", 9, end(api.EndStuck, 6))
	ends(t, "o: while true { o: while 1 / 0 == 0 {} }", 9, end(api.EndStuck, 6))
	ends(t, "o: while true { while true { o: while true {} } }", 9, end(api.EndStuck, 4))
	ends(t, "o: while false {} o: while false {}", 9, end(api.EndDone, 5))
	ends(t, "o: while true { break; } o: while true { break o; } pay 1 to 1;", 9, paid(1, 0, 0, 2))
	ends(t, "held: while true { pay held to buyer; break held; }", 9, paid(100, 0, 0, 5))
	// three loops, and all ways out of the innermost
	three := "let n=0;let m=0;o:while n<2{set n=n+1;p:while m<9{set m=m+1;while true{LEAVE}pay 1 to 1;}pay 1 to 2;}pay 1 to 3;"
	leaving := func(how string, want api.TermsOutcome) {
		t.Helper()
		ends(t, strings.Replace(three, "LEAVE", how, 1), 200, want)
	}
	// each sum: the two lets, o, its tests, the rounds of o, the last pay
	leaving("break;", paid(9, 2, 1, 200-2-1-3-(2+10+9*5+1)-(2+1+1)-1))
	leaving("break p;", paid(0, 2, 1, 200-2-1-3-2*(2+1+4+1)-1))
	leaving("break o;", paid(0, 0, 1, 200-2-1-1-(2+1+4)-1))
	leaving("continue p;", paid(0, 2, 1, 200-2-1-3-(2+10+9*4+1)-(2+1+1)-1))
	leaving("continue o;", paid(0, 0, 1, 200-2-1-3-2*(2+1+4)-1))
	leaving("done;", paid(0, 0, 0, 200-2-2-2-5))
	leaving("fail 7;", failed(7, 200-2-2-2-5))
}

func TestP3_7Pay(t *testing.T) {
	ends(t, "pay 60 to seller; pay 40 to buyer;", 50, paid(40, 60, 0, 48))
	ends(t, "pay 100 to arbiter;", 50, paid(0, 0, 100, 49))
	ends(t, "pay 1 to 1; pay 2 to 2; pay 3 to 3; pay 10 to 1; pay 20 to 2; pay 30 to 3;", 50, paid(11, 22, 33, 44))
	ends(t, "pay 0 to 1;", 50, end(api.EndDone, 49))
	ends(t, "pay 101 to 1;", 50, end(api.EndPot, 49))
	ends(t, "pay 100 to 1; pay 1 to 2;", 50, end(api.EndPot, 48))
	ends(t, "pay 50 to 1; pay 30 to 2; pay 20 to 3; pay 0 to 1;", 50, paid(50, 30, 20, 46))
	ends(t, "pay 50 to 1; pay 30 to 2; pay 21 to 3;", 50, end(api.EndPot, 47))
	ends(t, "pay 1 to 1; pay 18446744073709551615 to 1;", 50, end(api.EndPot, 48))
	ends(t, "pay 1 to 2; pay 18446744073709551615 to 1;", 50, end(api.EndPot, 48))
	for _, party := range []string{"0", "4", "held", "18446744073709551615"} {
		ends(t, "pay 1 to "+party+";", 50, end(api.EndParty, 49))
		ends(t, "pay 101 to "+party+";", 50, end(api.EndParty, 49))
	}
	ends(t, "pay true to 1 / 0;", 50, end(api.EndStuck, 49))
	ends(t, "pay 1 / 0 to true;", 50, end(api.EndZero, 49))
	ends(t, "pay 1 to true;", 50, end(api.EndStuck, 49))
	ends(t, "pay 101 to true;", 50, end(api.EndStuck, 49))
	ends(t, "pay 1000 to 1 / 0;", 50, end(api.EndZero, 49))
	all := api.TermsEnv{Held: most}
	runs(t, onFund(t, "pay held to 1; pay 0 to 2;"), 0, all, 5, paid(most, 0, 0, 3))
	runs(t, onFund(t, "pay held - 1 to 1; pay 1 to 2;"), 0, all, 5, paid(most-1, 1, 0, 3))
	runs(t, onFund(t, "pay held - 1 to 1; pay 2 to 2;"), 0, all, 5, end(api.EndPot, 3))
	runs(t, onFund(t, "pay held to 1; pay held to 1;"), 0, all, 5, end(api.EndPot, 3))
	runs(t, onFund(t, "pay 1 to 1;"), 0, api.TermsEnv{Amount: 5}, 5, end(api.EndPot, 4))
	runs(t, onFund(t, "pay 0 to 1;"), 0, api.TermsEnv{}, 5, end(api.EndDone, 4))
}

func TestP3_7Inputs(t *testing.T) {
	for in, want := range map[string]string{"buyer": "1", "seller": "2", "arbiter": "3", "caller": "2", "amount": "120", "held": "100", "now": "9", "opened": "4", "due": "20", "asked": "7"} {
		ends(t, "require "+in+" == "+want+", 1;", 9, end(api.EndDone, 8))
		ends(t, "require "+in+" != "+want+", 1;", 9, failed(1, 8))
		ends(t, "require "+in+", 1;", 9, end(api.EndStuck, 8))
	}
	ends(t, "require disputed, 1;", 9, end(api.EndDone, 8))
	ends(t, "pay disputed to 1;", 9, end(api.EndStuck, 8))
	runs(t, onFund(t, "require disputed, 1;"), 0, api.TermsEnv{}, 9, failed(1, 8))
	runs(t, onFund(t, "require caller + amount + held + now + opened + due + asked == 0, 1;"), 0, api.TermsEnv{}, 9, end(api.EndDone, 8))
}

// value wants an expression to have that value.
func value(t *testing.T, expr, want string) {
	t.Helper()
	ends(t, "require ("+expr+") == "+want+", 1;", 9, end(api.EndDone, 8))
}

func TestP3_7Numbers(t *testing.T) {
	for expr, want := range map[string]string{
		"1 + 2": "3", "18446744073709551614 + 1": "18446744073709551615", "5 - 3": "2", "5 - 5": "0", "7 * 8": "56", "4294967296 * 4294967295": "18446744069414584320", "0 * 18446744073709551615": "0", "18446744073709551615 * 1": "18446744073709551615",
		"17 / 5": "3", "17 % 5": "2", "0 / 5": "0", "0 % 5": "0", "4 / 5": "0", "18446744073709551615 / 18446744073709551615": "1", "18446744073709551615 % 10": "5", "18446744073709551615 / 2": "9223372036854775807", "10 - 2 - 3": "5", "100 / 10 / 5": "2", "2 + 3 * 4": "14", "17 % 5 * 10": "20",
		"min(3, 4)": "3", "min(4, 3)": "3", "max(3, 4)": "4", "max(4, 3)": "4", "min(7, 7)": "7", "max(7, 7)": "7", "max(0, 18446744073709551615)": "18446744073709551615", "min(9223372036854775808, 1)": "1",
		"share(10, 10, 3)": "33", "share(18446744073709551615, 7, 7)": "18446744073709551615", "share(18446744073709551615, 18446744073709551615, 18446744073709551615)": "18446744073709551615", "share(0, 5, 1)": "0", "share(1, 1, 2)": "0", "share(18446744073709551615, 2, 3)": "12297829382473034410", "share(1, 18446744073709551615, 18446744073709551615)": "1",
		"share(18446744073709551615, 3, 4)": "13835058055282163711", "share(9223372036854775808, 2, 2)": "9223372036854775808", "share(99, 1, 100)": "0",
	} {
		value(t, expr, want)
	}
	for expr, e := range map[string]api.TermsEnd{
		"18446744073709551615 + 1": api.EndOver, "18446744073709551615 + 18446744073709551615": api.EndOver, "0 - 1": api.EndOver, "3 - 4": api.EndOver, "4294967296 * 4294967296": api.EndOver, "18446744073709551615 * 2": api.EndOver, "18446744073709551615 * 18446744073709551615": api.EndOver,
		"1 / 0": api.EndZero, "0 / 0": api.EndZero, "1 % 0": api.EndZero, "share(1, 1, 0)": api.EndZero, "share(18446744073709551615, 18446744073709551615, 0)": api.EndZero, "share(0, 0, 0)": api.EndZero,
		"share(18446744073709551615, 2, 1)": api.EndOver, "share(18446744073709551615, 18446744073709551615, 18446744073709551614)": api.EndOver, "share(9223372036854775808, 2, 1)": api.EndOver, "share(4294967296, 4294967296, 1)": api.EndOver,
	} {
		ends(t, "let a = "+expr+";", 9, end(e, 8))
	}
}

func TestP3_7Truths(t *testing.T) {
	for expr, want := range map[string]string{
		"not true": "false", "not false": "true", "not not true": "true", "true or false": "true", "false or true": "true", "false or false": "false", "true or true": "true", "true and false": "false", "false and true": "false", "true and true": "true", "false and false": "false",
		"1 == 1": "true", "1 == 2": "false", "1 != 1": "false", "1 != 2": "true", "true == true": "true", "true == false": "false", "false == false": "true", "true != false": "true", "false != false": "false", "true != true": "false",
		"1 < 2": "true", "2 < 1": "false", "1 < 1": "false", "1 <= 2": "true", "2 <= 1": "false", "1 <= 1": "true", "1 > 2": "false", "2 > 1": "true", "1 > 1": "false", "1 >= 2": "false", "2 >= 1": "true", "1 >= 1": "true", "0 < 18446744073709551615": "true", "9223372036854775808 > 1": "true", "false and true or true": "true", "true or true and false": "true", "not false or true": "true", "not (false or true)": "false",
		"true or held": "true", "true or 1 / 0 == 1": "true", "false and 1": "false", "false and 1 / 0 == 1": "false", "true or x": "true", "false and x": "false",
	} {
		value(t, expr, want)
	}
}

// Where an operand of the wrong kind is seen: as soon as it is there, but on both sides of == and != once both are.
func TestP3_7Kinds(t *testing.T) {
	for expr, e := range map[string]api.TermsEnd{
		"true + 1 / 0": api.EndStuck, "1 / 0 + true": api.EndZero, "1 + true": api.EndStuck, "true - 1 / 0": api.EndStuck, "true * 1 / 0": api.EndStuck, "true / 0": api.EndStuck, "0 % true": api.EndStuck, "true < 1 / 0": api.EndStuck, "1 < true": api.EndStuck, "1 / 0 <= true": api.EndZero, "true >= 1 / 0": api.EndStuck, "true > false": api.EndStuck, "1 / false": api.EndStuck, "true <= true": api.EndStuck,
		"true == 1": api.EndStuck, "1 == true": api.EndStuck, "0 == false": api.EndStuck, "1 != true": api.EndStuck, "true != 1": api.EndStuck, "true == 1 / 0": api.EndZero, "1 / 0 == true": api.EndZero, "true != 0 - 1": api.EndOver, "x == 1 / 0": api.EndStuck,
		"1 or true": api.EndStuck, "false or 1": api.EndStuck, "1 and true": api.EndStuck, "true and 1": api.EndStuck, "true and 1 / 0": api.EndZero, "1 or 1 / 0": api.EndStuck, "not 1": api.EndStuck, "not (1 / 0)": api.EndZero, "0 or true": api.EndStuck, "0 and true": api.EndStuck,
		"min(true, 1 / 0)": api.EndStuck, "min(1 / 0, true)": api.EndZero, "max(1, true)": api.EndStuck, "share(true, 1 / 0, 0)": api.EndStuck, "share(1, true, 0)": api.EndStuck, "share(1, true, 1 / 0)": api.EndStuck, "share(1, 1, true)": api.EndStuck, "share(1, 1 / 0, true)": api.EndZero, "share(0 - 1, 1, 0)": api.EndOver, "share(1, 1, false)": api.EndStuck,
		"x": api.EndStuck, "x + 1 / 0": api.EndStuck, "1 / 0 + x": api.EndZero, "0 - 1 + x": api.EndOver,
	} {
		ends(t, "let a = "+expr+";", 9, end(e, 8))
	}
}
