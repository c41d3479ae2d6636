package wal

import (
	"errors"

	"quorum/api"
)

// Log is a log on a disk. Of its bodies it keeps only how many they are: they lie on the disk.
type Log struct {
	disk   *Disk // nil if Open did not give the log
	file   uint64
	count  int
	safe   int
	broken bool
}

// closed tells why nothing can be written: Open did not give the log, or a dead disk has broken it.
func (l *Log) closed() api.Errno {
	switch {
	case l == nil || l.disk == nil:
		return api.ErrZero
	case l.broken:
		return api.ErrWalDead
	}
	return api.OK
}

// writeFault tells of a write that was refused; of the dead disk by the number that the call has for it.
func writeFault(why error, dead api.Errno) error {
	if errors.Is(why, api.ErrDiskDead) {
		why = dead
	}
	return refusal(0, why)
}

// refused tells of a write that was refused. The dead disk breaks the log for good: what the disk has of it, nobody knows until it is opened anew.
func (l *Log) refused(why error) error {
	err := writeFault(why, api.ErrWalDead)
	l.broken = errors.Is(err, api.ErrWalDead)
	return err
}

// Append adds a body, and tells its place (P8.8).
func (l *Log) Append(body []byte) (int, error) {
	if why := l.closed(); why != api.OK {
		return 0, refusal(0, why)
	}
	frame, err := Frame(l.count, body)
	if err != nil {
		return 0, err
	}
	if why := l.disk.Append(l.file, frame); why != api.OK {
		return 0, l.refused(why)
	}
	l.count++
	return l.count - 1, nil
}

// Sync makes all that was added safe (P8.9).
func (l *Log) Sync() error {
	if why := l.closed(); why != api.OK {
		return refusal(0, why)
	}
	if why := l.disk.Sync(l.file); why != api.OK {
		return l.refused(why)
	}
	l.safe = l.count
	return nil
}

// Rotate takes a base in the place of all bodies (P8.10).
func (l *Log) Rotate(base [][]byte) (err error) {
	if why := l.closed(); why != api.OK {
		return refusal(0, why)
	}
	if err := l.baseFault(base); err != nil {
		return err
	}
	defer func() {
		if why, gaveUp := recover().(error); gaveUp {
			err = l.refused(why)
		}
	}()
	l.disk.lay(l.file+1, base)
	insist(l.disk.Remove(l.file))
	l.file++
	l.count, l.safe = len(base), len(base)
	return nil
}

// baseFault refuses a base that can't be taken, whatever the disk answers.
func (l *Log) baseFault(base [][]byte) error {
	if len(base) > api.MaxBase {
		return refusal(0, api.ErrWalBase)
	}
	for at, body := range base {
		if len(body) > api.MaxBody {
			return refusal(at, api.ErrWalLong)
		}
	}
	if l.file >= api.MaxSeg || len(l.disk.files) >= api.MaxFiles {
		return refusal(0, api.ErrDiskFull)
	}
	return nil
}

// Len tells how many bodies there are (P8.11).
func (l *Log) Len() int {
	if l.closed() == api.ErrZero {
		return 0
	}
	return l.count
}

// Safe tells how many of them a crash can't take (P8.11).
func (l *Log) Safe() int {
	if l.closed() == api.ErrZero {
		return 0
	}
	return l.safe
}
