package engine_test

import (
	"regexp"
	"strings"
	"testing"

	"quorum/api"
	"quorum/deal"
	"quorum/engine"
)

// sale is the script of the chapter's first example.
const sale = `# one sale
cluster 1 4 0 4 2 3 20 80 1000 1000
account 1 256 100 1000
account 2 257 0 1000
account 3 258 0 1000
client 256 5
send 256 transfer 1 2 10
calm 12
`

// The chapter's examples, by their numbers.

func TestExample1(t *testing.T) {
	setup, events := parsed(t, sale)
	want := api.Setup{
		Config:   api.Config{F: 1, MaxBatch: 4, Delay: 0, Window: 4, Every: 2, Beat: 3, Epoch: 20, EpochMax: 80, MaxNum: 1000, MaxSlot: 1000},
		Accounts: []api.Account{{ID: 1, Owner: 256, Balance: 100, Cap: 1000}, {ID: 2, Owner: 257, Cap: 1000}, {ID: 3, Owner: 258, Cap: 1000}},
		Clients:  []api.ClientSetup{{Id: 256, Resend: 5}},
	}
	if !same(setup, want) || !same(events, []api.Event{{Kind: api.ESend, Client: 256, Data: []byte{3, 1, 2, 10}}, {Kind: api.ECalm, Count: 12}}) {
		t.Errorf("%+v %+v", setup, events)
	}
	if text := printed(t, setup, events); "# one sale\n"+text != sale {
		t.Errorf("%q", text)
	}
	report := isPlayed(t, sale)
	if !strings.HasPrefix(report, "7: client 256 asks 1 transfer 1 2 10\n") || !strings.HasSuffix(report, "\ntotal 100\nhistory linear: 0\n") {
		t.Errorf("%s", report)
	}
	has(t, report, "8: node 0 runs slot 0 time 3: 256/1", "8: node 1 runs slot 0 time 3: 256/1", "8: node 2 runs slot 0 time 3: 256/1", "8: client 256 is told 1 code 0 time 3 -",
		"house of node 0", "account 1 owner 256 has 90 of 1000", "account 2 owner 257 has 10 of 1000", "account 3 owner 258 has 0 of 1000")
}

func TestExample2(t *testing.T) {
	refuses(t, "calm alone", "calm 3", api.ErrEngineOrder, 1)
	refuses(t, "an empty text", "", api.ErrEngineHead, 0)
	refuses(t, "hello", "hello", api.ErrEngineLine, 1)
	refuses(t, "cluster 1", "cluster 1", api.ErrEngineWord, 1)
}

func TestExample3(t *testing.T) {
	const four = "cluster 4 4 0 4 2 3 20 80 1000 1000"
	if setup, events := parsed(t, four); setup.Config.F != 4 || events != nil {
		t.Errorf("%+v %+v", setup, events)
	}
	_, err := engine.Play(four)
	isFault(t, "F 4", err, &api.Fault{Layer: "cluster", Err: &api.Fault{Layer: "replica", Err: &api.Fault{Layer: "ballot", Err: api.ErrBallotConfig}}}, 1)
	isTold(t, four, "refused engine 1 cluster 0 replica 0 ballot 0 errno 180")
}

func TestExample4(t *testing.T) {
	_, events := parsed(t, head+`send 256 open 7 1 2 3 50 900 "on release {\n\tpay held to seller;\n}\n"`)
	c, err := deal.Unpack(events[0].Data)
	want := api.Cmd{Verb: api.VOpen, Deal: 7, Acct: 1, To: 2, Arbiter: 3, Amount: 50, Due: 900, Terms: "on release {\n\tpay held to seller;\n}\n"}
	if err != nil || c != want {
		t.Errorf("%+v %v", c, err)
	}
	report := isPlayed(t, house+`send 256 open 7 1 2 3 50 900 "on release {\n\tpay held to seller;\n}\n"`+"\ncalm 12")
	has(t, report, `8: client 256 asks 1 open 7 1 2 3 50 900 "on release {\n\tpay held to seller;\n}\n"`, "9: client 256 is told 1 code 0 time 3 -", "deal 7 phase 1 amount 50 paid 0 0 0")
	refuses(t, "no terms", head+`send 256 open 7 1 2 3 50 900 ""`, api.ErrEngineWord, 2)
}

func TestExample5(t *testing.T) {
	_, events := parsed(t, head+"crash 1 3:10:- 4:0:7")
	if !same(events, []api.Event{{Kind: api.ECrash, Node: 1, Tears: []api.WalTear{{File: 3, Keep: 10, Flip: -1}, {File: 4, Keep: 0, Flip: 7}}}}) {
		t.Errorf("%+v", events)
	}
	has(t, isPlayed(t, head+"crash 1 3:10:- 4:0:7"), "2: node 1 is down", "node 1 crashed clock 0")
}

func TestExample6(t *testing.T) {
	refuses(t, "01", head+"tick 0 01", api.ErrEngineWord, 2)
	refuses(t, "2^64", head+"tick 0 18446744073709551616", api.ErrEngineWord, 2)
	_, events := parsed(t, head+"tick 0 18446744073709551615")
	if !same(events, []api.Event{{Kind: api.ETick, Count: most}}) {
		t.Errorf("%+v", events)
	}
	isTold(t, head+"tick 0 18446744073709551615", "refused engine 2 cluster 4 errno 321")
}

// The examples of the whole, by their numbers.

func TestWhole1(t *testing.T) { has(t, played(t, sale), "history linear: 0") }

func TestWhole2(t *testing.T) {
	report := isPlayed(t, house+`send 256 open 7 1 2 3 50 900 "on release { require caller == buyer, 7; pay share(held, 1, 10) to arbiter; }"
calm 12
send 256 fund 7 0
calm 12
send 257 release 7 0
calm 12
send 256 release 7 0
calm 12
`)
	has(t, report, "13: client 257 is told 1 code 110 time 25 00000000000000010000000000000007", "15: client 256 is told 3 code 0 time 37 0000000000000000000000000000002D0000000000000005",
		"account 1 owner 256 has 50 of 1000", "account 2 owner 257 has 45 of 1000", "account 3 owner 258 has 25 of 1000", "deal 7 phase 4 amount 50 paid 0 45 5", "total 120", "history linear: 0 1 2 3")
	lacks(t, report, "hold")
}

func TestWhole3(t *testing.T) {
	report := isPlayed(t, house+"stop 0\nsend 256 transfer 1 2 10\ncalm 300")
	has(t, report, "8: node 0 is down", "9: client 256 asks 1 transfer 1 2 10", "10: node 1 runs slot 0 time 44: 256/1", "10: node 2 runs slot 0 time 44: 256/1", "10: client 256 is told 1 code 0 time 44 -",
		"node 0 stopped clock 300", "house of node 1", "history linear: 0")
	if n := len(regexp.MustCompile(`(?m)^node [12] up clock 300 view 1\.1 slot 1 `).FindAllString(report, -1)); n != 2 {
		t.Errorf("%d replicas in view {1 1}:\n%s", n, report)
	}
}

func TestWhole4(t *testing.T) {
	begun := isPlayed(t, house+"fuse 0 1\nstep 0 2\nrestart 0\nstep 0 2")
	has(t, begun, "9: node 0 is down", "10: node 0 is up at slot 0", "sent 3 datagrams of 42 bytes") // the prepares of {1 0}
	kept := isPlayed(t, house+"fuse 0 1 1:1000:-\nstep 0 2\nrestart 0\nstep 0 2")
	has(t, kept, "9: node 0 is down", "10: node 0 is up at slot 0", "sent 0 datagrams of 0 bytes")
	has(t, isPlayed(t, house+"step 0 2"), "sent 3 datagrams of 42 bytes")
}

// request300 is a line that forges client 300's first request: an account of its own.
func request300(t testing.TB, flip int) string {
	t.Helper()
	data := datagram(t, 1, packed(t, api.Cmd{Verb: api.VEnrol, Acct: 9, Amount: 70}))
	if flip >= 0 {
		for _, bit := range []int{flip, flip + 7, flip + 31} { // three bits within 32
			data[bit/8] ^= 1 << (bit % 8)
		}
	}
	return "forge 300 0 " + secondHex(data)
}

func TestWhole5(t *testing.T) {
	report := isPlayed(t, house+request300(t, -1)+"\ncalm 20\n")
	has(t, report, "9: node 0 runs slot 0 time 3: 300/1", "9: node 2 runs slot 0 time 3: 300/1", "account 9 owner 300 has 0 of 70", "total 120", "history linear:")
	lacks(t, report, "is told")
}

func TestWhole6(t *testing.T) {
	length := len(datagram(t, 1, packed(t, api.Cmd{Verb: api.VEnrol, Acct: 9, Amount: 70})))
	for flip := 0; flip+31 < 8*length; flip++ {
		report := isPlayed(t, house+request300(t, flip)+"\ncalm 20\n")
		lacks(t, report, "runs")
		lacks(t, report, "account 9")
	}
}

func TestWhole7(t *testing.T) {
	text := house + strings.Repeat("send 256 transfer 1 2 1\ncalm 12\n", 4)
	report := isPlayed(t, text)
	if n := len(regexp.MustCompile(`(?m)^node [012] up clock 48 view 1\.0 slot 4 low 4 mark 4 root `).FindAllString(report, -1)); n != 3 {
		t.Errorf("%d replicas with a checkpoint of slot 4:\n%s", n, report)
	}
	// A crash that takes all it can leaves the checkpoint.
	has(t, isPlayed(t, text+"crash 0\ncrash 1\ncrash 2\nrestart 0\nrestart 1\nrestart 2"), "19: node 0 is up at slot 4", "20: node 1 is up at slot 4", "21: node 2 is up at slot 4", "account 2 owner 257 has 4 of 1000")
}

func TestWhole8(t *testing.T) {
	text := strings.Replace(house, head, "cluster 1 4 0 2 2 3 20 80 1000 1000\n", 1) + "fuse 2 0\n" + strings.Repeat("send 256 transfer 1 2 1\ncalm 12\n", 9)
	has(t, isPlayed(t, text), "10: node 2 is down", "node 2 crashed clock 108")
	report := isPlayed(t, text+"restart 2\ncalm 40\n")
	has(t, report, "27: node 2 is up at slot 0", "28: node 2 takes over slot 8", "28: node 2 runs slot 8 time 97: 256/9", "house of node 0", "account 2 owner 257 has 9 of 1000", "history not looked at: 340")
	root := regexp.MustCompile(`(?m)^node ([012]) up clock 148 view 1\.0 slot 9 low 8 mark 8 root ([0-9A-F]{64})$`).FindAllStringSubmatch(report, -1)
	if len(root) != 3 || root[0][2] != root[1][2] || root[1][2] != root[2][2] {
		t.Errorf("%s", report)
	}
}

func TestWhole9(t *testing.T) {
	isTold(t, "cluster 4 4 0 4 2 3 20 80 1000 1000", "refused engine 1 cluster 0 replica 0 ballot 0 errno 180")
}

func TestWhole10(t *testing.T) {
	isTold(t, "# a remark\n"+head+"account 1 256 5 4\n", "refused engine 2 cluster 0 replica 3 session 0 deal 0 ledger 0 errno 47")
}
