package wal_test

import "quorum/api"

// plainLog is a second log. It works on the second disk by lists of writes, and knows what bodies it has.
type plainLog struct {
	disk   *plainDisk
	number uint64
	has    [][]byte
	safe   int
	broken bool
}

// through carries out writes until one is refused.
func (p *plainDisk) through(list []write) api.Errno {
	for _, w := range list {
		if why := p.do(w); why != 0 {
			return why
		}
	}
	return 0
}

// openWrites gives the writes of Open, the log's segment and its bodies; or the number with which it refuses.
func openWrites(img api.DiskImage) ([]write, uint64, [][]byte, api.Errno) {
	for i := len(img.Files) - 1; i >= 0; i-- {
		f := img.Files[i]
		data := string(f.Synced) + string(f.Tail)
		s := plainScan(f.Number, []byte(data))
		if s.code != 0 {
			continue
		}
		var list []write
		if len(data) > s.good {
			list = append(list, write{name: "Cut", number: f.Number, length: s.good})
		}
		list = append(list, write{name: "Sync", number: f.Number})
		for _, other := range img.Files {
			if other.Number != f.Number {
				list = append(list, write{name: "Remove", number: other.Number})
			}
		}
		return list, f.Number, s.bodies, 0
	}
	begin := []write{{name: "Create", number: 1}, {name: "Append", number: 1, data: plainSegment(1, 0)}, {name: "Sync", number: 1}}
	if len(img.Files) == 0 {
		return begin, 1, nil, 0
	}
	f := img.Files[0]
	if len(img.Files) == 1 && f.Number == 1 && len(f.Synced)+len(f.Tail) <= 21 {
		return append([]write{{name: "Remove", number: 1}}, begin...), 1, nil, 0
	}
	return nil, 0, nil, 167
}

func plainOpen(p *plainDisk) (*plainLog, api.Errno) {
	list, number, has, why := openWrites(p.image())
	if why == 0 {
		why = p.through(list)
	}
	if why != 0 {
		return nil, why
	}
	return &plainLog{disk: p, number: number, has: has, safe: len(has)}, 0
}

// met tells what a log answers where the disk has answered so.
func (l *plainLog) met(why api.Errno) api.Errno {
	if why == 160 {
		l.broken = true
		return 168
	}
	return why
}

func (l *plainLog) append(body string) (int, api.Errno) {
	if l.broken {
		return 0, 168
	}
	frame := string(plainFrame(uint32(len(l.has)), []byte(body)))
	if why := l.disk.do(write{name: "Append", number: l.number, data: frame}); why != 0 {
		return 0, l.met(why)
	}
	l.has = append(l.has, list(body))
	return len(l.has) - 1, 0
}

func (l *plainLog) sync() api.Errno {
	if l.broken {
		return 168
	}
	if why := l.disk.do(write{name: "Sync", number: l.number}); why != 0 {
		return l.met(why)
	}
	l.safe = len(l.has)
	return 0
}

func (l *plainLog) rotate(base []string) api.Errno {
	if l.broken {
		return 168
	}
	next := l.number + 1
	why := l.disk.through([]write{
		{name: "Create", number: next},
		{name: "Append", number: next, data: plainSegment(next, len(base), base...)},
		{name: "Sync", number: next},
		{name: "Remove", number: l.number},
	})
	if why != 0 {
		return l.met(why)
	}
	l.number, l.has, l.safe = next, bodies(base...), len(base)
	return 0
}
