package terms_test

import (
	"slices"
	"strings"
	"testing"

	"quorum/api"
	"quorum/terms"
)

// The document's first example, rule by rule.
const (
	releaseRule = `on release {
	require caller == buyer and not disputed, 10;
	let fee = share(held, 3, 100);
	pay fee to arbiter;
	pay held - fee to seller;
}
`
	arbitrateRule = `on arbitrate {
	require asked <= 100, 11;
	let mine = share(held, 2, 100);
	let rest = held - mine;
	pay mine to arbiter;
	if asked == 0 {
		pay rest to buyer;
	} else if asked == 100 {
		pay rest to seller;
	} else {
		let part = share(rest, asked, 100);
		pay part to seller;
		pay rest - part to buyer;
	}
}
`
)

func TestExample(t *testing.T) {
	remark := "# the seller's fee is three in a hundred, the arbiter's two if there was a quarrel\n"
	noParse(t, remark+releaseRule+arbitrateRule, api.ErrTermsLong, 0)
	for _, rule := range []string{releaseRule, arbitrateRule} {
		list := read(t, rule)
		isFault(t, "Check", terms.Check(list), api.OK, 0)
		prints(t, list, rule)
		prints(t, read(t, remark[:20]+"\n"+rule), rule)
	}
	release, arbitrate := read(t, releaseRule), read(t, arbitrateRule)
	runs(t, release, api.EvRelease, api.TermsEnv{Caller: api.Buyer, Held: 250}, 100, paid(0, 243, 7, 96))
	runs(t, release, api.EvRelease, api.TermsEnv{Caller: api.Seller, Held: 250}, 100, failed(10, 99))
	runs(t, release, api.EvRelease, api.TermsEnv{Caller: api.Buyer, Held: 250, Disputed: true}, 100, failed(10, 99))
	runs(t, release, api.EvArbitrate, api.TermsEnv{Held: 250}, 100, end(api.EndNone, 100))
	runs(t, arbitrate, api.EvArbitrate, api.TermsEnv{Held: 250}, 100, paid(245, 0, 5, 94))
	runs(t, arbitrate, api.EvArbitrate, api.TermsEnv{Held: 250, Asked: 100}, 100, paid(0, 245, 5, 93))
	runs(t, arbitrate, api.EvArbitrate, api.TermsEnv{Held: 250, Asked: 50}, 100, paid(123, 122, 5, 91))
	runs(t, arbitrate, api.EvArbitrate, api.TermsEnv{Held: 250, Asked: 101}, 100, failed(11, 99))
}

func TestExamplesOfParse(t *testing.T) {
	parses(t, "on fund {}", []api.TermsNode{node(api.TRules, 1, ""), node(api.TOn, 0, ""), block(0)})
	parses(t, "on expire{done;}on fund{fail 3;}", []api.TermsNode{node(api.TRules, 2, ""), node(api.TOn, 5, ""), block(1), plain(api.TDone), node(api.TOn, 0, ""), block(1), node(api.TFail, 3, "")})
	noParse(t, "", api.ErrTermsSyntax, 0)
	noParse(t, "# x", api.ErrTermsSyntax, 3)
	noParse(t, "on fund { let x = 1 }", api.ErrTermsSyntax, 20)
	noParse(t, "on fund { let x = 01; }", api.ErrTermsToken, 18)
	noParse(t, "on fund { fail 0; }", api.ErrTermsSyntax, 15)
	noParse(t, "on fund { x = 1; }", api.ErrTermsSyntax, 12)
	noParse(t, "on fund { let y = a < b < c; }", api.ErrTermsSyntax, 24)
	noParse(t, "on on !", api.ErrTermsToken, 6)
}

func TestExamplesOfTrees(t *testing.T) {
	noTree(t, []api.TermsNode{node(api.TRules, 300, "")}, 1)
	nots := append(fund(1, node(api.TRequire, 1, "")), slices.Repeat([]api.TermsNode{plain(api.TNot)}, 20)...)
	noTree(t, append(nots, plain(api.TTrue)), 24)
	// a TDone of depth 4: twenty more are 24
	deep := "on fund {" + strings.Repeat("if true {", 10) + "done;" + strings.Repeat("}", 11)
	isTree(t, "a TDone of depth 24", read(t, deep))
	noParse(t, strings.Replace(deep, "done;", "let a = 1;", 1), api.ErrTermsDeep, 0)
}

func TestExamplesOfCheck(t *testing.T) {
	checks(t, "let a = 1; let a = 2;", api.ErrTermsName, 5)
	checks(t, "if true { let a = 1; } let a = 2;", api.OK, 0)
	checks(t, "set held = 1;", api.ErrTermsName, 3)
	checks(t, "let a = a;", api.ErrTermsName, 4)
	checks(t, "require held, 1;", api.ErrTermsKind, 4)
	checks(t, "let b = true == 1;", api.ErrTermsKind, 6)
	checks(t, "break;", api.ErrTermsLabel, 3)
	checks(t, "if true or held { done; }", api.ErrTermsKind, 6)
}

func TestExamplesOfRun(t *testing.T) {
	ends(t, "pay 60 to seller; pay 40 to buyer;", 50, paid(40, 60, 0, 48))
	ends(t, "pay 60 to seller; pay 41 to buyer;", 50, end(api.EndPot, 48))
	ends(t, "let n = 0; while n < 3 { set n = n + 1; }", 50, end(api.EndDone, 50-1-1-4-3))
	ends(t, "while true {}", 50, end(api.EndFuel, 0))
	ends(t, "pay 1 to 4;", 50, end(api.EndParty, 49))
	ends(t, "let x = 0 - 1;", 50, end(api.EndOver, 49))
	ends(t, "let x = share(18446744073709551615, 7, 7);", 50, end(api.EndDone, 49))
	ends(t, "if true or held { done; }", 50, end(api.EndDone, 48))
}

// The terms of the whole's second example.
func TestExampleOfTheWhole(t *testing.T) {
	list := read(t, "on release { require caller == buyer, 7; pay share(held, 1, 10) to arbiter; }")
	isFault(t, "Check", terms.Check(list), api.OK, 0)
	runs(t, list, api.EvRelease, api.TermsEnv{Caller: api.Buyer, Held: 50}, api.MaxFuel, paid(0, 0, 5, 998))
	runs(t, list, api.EvRelease, api.TermsEnv{Caller: api.Seller, Held: 50}, api.MaxFuel, failed(7, 999))
}

// A call that is made again, or at the same time as another, answers the same: nothing is kept.
func TestNothingIsKept(t *testing.T) {
	list := read(t, arbitrateRule)
	done := make(chan bool)
	for range 8 {
		go func() {
			defer func() { done <- true }()
			for range 50 {
				parses(t, arbitrateRule, list)
				prints(t, list, arbitrateRule)
				isFault(t, "Check", terms.Check(list), api.OK, 0)
				runs(t, list, api.EvArbitrate, api.TermsEnv{Held: 250, Asked: 50}, 100, paid(123, 122, 5, 91))
				noParse(t, "on fund { let x = 1 }", api.ErrTermsSyntax, 20)
			}
		}()
	}
	for range 8 {
		<-done
	}
}
