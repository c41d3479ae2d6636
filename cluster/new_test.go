package cluster_test

import (
	"testing"

	"quorum/api"
	"quorum/cluster"
	"quorum/replica"
	"quorum/wal"
)

// badConfigs turn a setup into one that replica.New refuses.
func badConfigs() map[string]func(*api.Setup) {
	return map[string]func(*api.Setup){
		"F 0":                 func(s *api.Setup) { s.Config.F = 0 },
		"F 4":                 func(s *api.Setup) { s.Config.F = 4 },
		"F far below":         func(s *api.Setup) { s.Config.F = -1 << 62 },
		"MaxBatch 9":          func(s *api.Setup) { s.Config.MaxBatch = 9 },
		"Delay 1001":          func(s *api.Setup) { s.Config.Delay = 1001 },
		"Window 9":            func(s *api.Setup) { s.Config.Window = 9 },
		"Every above Window":  func(s *api.Setup) { s.Config.Every = 5 },
		"Beat 0":              func(s *api.Setup) { s.Config.Beat = 0 },
		"Epoch 0":             func(s *api.Setup) { s.Config.Epoch = 0 },
		"EpochMax below":      func(s *api.Setup) { s.Config.EpochMax = 19 },
		"MaxNum 0":            func(s *api.Setup) { s.Config.MaxNum = 0 },
		"MaxSlot too great":   func(s *api.Setup) { s.Config.MaxSlot = 1<<40 + 1 },
		"no configuration":    func(s *api.Setup) { s.Config = api.Config{} },
		"an account twice":    func(s *api.Setup) { s.Accounts[1].ID = 1 },
		"more than its cap":   func(s *api.Setup) { s.Accounts[2].Balance = 1001 },
		"account 0":           func(s *api.Setup) { s.Accounts[0].ID = 0 },
		"too many accounts":   func(s *api.Setup) { s.Accounts = make([]api.Account, 65) },
		"F 4, account 0":      func(s *api.Setup) { s.Config.F, s.Accounts[0].ID = 4, 0 },
		"F 4, bad clients":    func(s *api.Setup) { s.Config.F, s.Clients[0].Resend = 4, 0 },
		"account 0, client 0": func(s *api.Setup) { s.Accounts[0].ID, s.Clients[0].Id = 0, 0 },
	}
}

// clients gives so many that may be.
func clients(n int) []api.ClientSetup {
	var list []api.ClientSetup
	for i := range n {
		list = append(list, api.ClientSetup{Id: 300 - uint64(i), Resend: 1 + uint64(i)})
	}
	return list
}

// badClients turn a setup into one with clients that may not be: the first is the one at that place.
func badClients() map[string]struct {
	turn func(*api.Setup)
	at   int
} {
	type bad = struct {
		turn func(*api.Setup)
		at   int
	}
	nth := func(n, at int, c api.ClientSetup) bad {
		return bad{func(s *api.Setup) { s.Clients = clients(n); s.Clients[at] = c }, at}
	}
	return map[string]bad{
		"nine":                {func(s *api.Setup) { s.Clients = clients(9) }, 8},
		"twenty":              {func(s *api.Setup) { s.Clients = clients(20) }, 8},
		"Id 0":                nth(1, 0, api.ClientSetup{Resend: 5}),
		"Id 255":              nth(3, 1, api.ClientSetup{Id: 255, Resend: 5}),
		"Resend 0":            nth(3, 2, api.ClientSetup{Id: 256}),
		"Resend 1001":         nth(8, 7, api.ClientSetup{Id: 256, Resend: 1001}),
		"Resend far above":    nth(1, 0, api.ClientSetup{Id: 256, Resend: most}),
		"the first once more": nth(4, 3, api.ClientSetup{Id: 300, Resend: 9}),
		"one ahead once more": nth(4, 2, api.ClientSetup{Id: 299, Resend: 2}),
		"nine, the sixth bad": nth(9, 5, api.ClientSetup{Id: 7, Resend: 9}),
		"nine, the ninth bad": nth(9, 8, api.ClientSetup{}),
		"nine, the first twice": {func(s *api.Setup) {
			s.Clients = clients(9)
			s.Clients[1].Id, s.Clients[5].Id = 300, 300
		}, 1},
		"a client of zeros": nth(2, 1, api.ClientSetup{}),
	}
}

func TestP16_1Refusals(t *testing.T) {
	for what, turn := range badConfigs() {
		s := with(turn)
		_, why := replica.New(s.Config, 0, s.Accounts, 0)
		c, err := cluster.New(s)
		isFault(t, what, err, why, 0)
		if c != nil || why == nil {
			t.Errorf("%s: a cluster beside %v", what, why)
		}
	}
	for what, bad := range badClients() {
		c, err := cluster.New(with(bad.turn))
		isFault(t, what, err, api.ErrClusterClients, 1+bad.at)
		if c != nil {
			t.Errorf("%s: a cluster", what)
		}
	}
	if c, err := cluster.New(api.Setup{}); c != nil || err == nil {
		t.Errorf("a setup of zeros: %v, %v", c, err)
	}
}

// The greatest and the least that may be.
func TestP16_1Edges(t *testing.T) {
	for what, s := range map[string]api.Setup{
		"eight clients": with(func(s *api.Setup) { s.Clients = clients(8) }),
		"no clients":    with(func(s *api.Setup) { s.Clients = nil }),
		"no accounts":   with(func(s *api.Setup) { s.Accounts = nil }),
		"edges": with(func(s *api.Setup) {
			s.Clients = []api.ClientSetup{{Id: 256, Resend: 1000}, {Id: most, Resend: 1}}
		}),
		"F 3": with(func(s *api.Setup) { s.Config.F = 3 }),
	} {
		c := begun(t, s)
		n := 2*s.Config.F + 1
		if c.Disk(n-1).Files == nil || c.Disk(n).Files != nil {
			t.Errorf("%s: not %d replicas", what, n)
		}
		for _, a := range s.Clients {
			if got := c.Client(a.Id); !same(got, api.ClientLook{Id: a.Id}) {
				t.Errorf("%s: client %+v", what, got)
			}
		}
	}
}

// A fresh cluster: every replica is up, as replica.New gives it, on a new disk with a log.
func TestP16_1Fresh(t *testing.T) {
	for _, s := range shapes() {
		c := begun(t, s)
		d := wal.NewDisk()
		if _, _, err := wal.Open(d); err != nil {
			t.Fatal(err)
		}
		var want look
		for n := range 2*s.Config.F + 1 {
			r, err := replica.New(s.Config, n, s.Accounts, 0)
			if err != nil {
				t.Fatal(err)
			}
			want.nodes = append(want.nodes, api.NodeLook{View: bal(1, 0), Machine: r.State().Machine})
			want.disks = append(want.disks, d.Image())
		}
		for _, a := range s.Clients {
			want.clients = append(want.clients, api.ClientLook{Id: a.Id})
		}
		if got := lookAt(c, s); !same(got, want) {
			t.Errorf("a fresh cluster: %+v, want %+v", got, want)
		}
	}
}
