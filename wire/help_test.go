package wire_test

import (
	"bytes"
	"errors"
	"testing"

	"quorum/api"
	"quorum/wire"
)

// refused holds an error against the number and the place that are wanted; api.OK wants a plain nil.
func refused(t *testing.T, what string, err error, why api.Errno, at int) {
	t.Helper()
	if why == api.OK {
		if err != nil {
			t.Errorf("%s: refused with %v, want no refusal", what, err)
		}
		return
	}
	f, ok := err.(*api.Fault)
	if !ok || f == nil {
		t.Errorf("%s: %v is no fault, want %d at %d", what, err, why, at)
		return
	}
	if f.Layer != "wire" || f.At != at || f.Err != error(why) || !errors.Is(err, why) {
		t.Errorf("%s: refused with %v, want %d at %d", what, err, why, at)
	}
}

// same holds bytes against those that are wanted; none must be nil.
func same(t *testing.T, what string, got, want []byte) {
	t.Helper()
	if !bytes.Equal(got, want) || len(want) == 0 && got != nil {
		t.Errorf("%s: % x (nil: %v), want % x", what, got, got == nil, want)
	}
}

// framed gives a datagram that is whole, whatever its body is.
func framed(t testing.TB, kind uint8, body ...byte) []byte {
	t.Helper()
	b, err := wire.Frame(kind, body)
	if err != nil {
		t.Fatal(err)
	}
	return b
}

// join lays byte strings one behind the other, in memory of their own.
func join(parts ...[]byte) []byte {
	return bytes.Join(parts, nil)
}

// turned gives a copy with one byte changed.
func turned(b []byte, at int, v byte) []byte {
	c := bytes.Clone(b)
	c[at] = v
	return c
}

// num lays a number down by the rule of P1.4, told once more.
func num(v uint64) []byte {
	var b []byte
	for ; v > 127; v /= 128 {
		b = append(b, byte(v%128)+128)
	}
	return append(b, byte(v))
}

// dice gives numbers that look like any, the same ones in every run.
type dice struct{ state uint64 }

func (d *dice) next() uint64 {
	d.state = d.state*6364136223846793005 + 1442695040888963407
	return d.state ^ d.state>>29
}

// below gives a number from 0 to n-1.
func (d *dice) below(n int) int { return int(d.next() % uint64(n)) }

// number gives small, great and middling numbers up to most.
func (d *dice) number(most uint64) uint64 {
	switch d.below(4) {
	case 0:
		return most
	case 1:
		return min(uint64(d.below(3)), most)
	}
	v := d.next() >> d.below(64)
	if most == 1<<64-1 {
		return v
	}
	return v % (most + 1)
}

func (d *dice) bytes(n int) []byte {
	var b []byte
	for range n {
		b = append(b, byte(d.next()>>11))
	}
	return b
}
