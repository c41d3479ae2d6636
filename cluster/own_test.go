package cluster_test

import (
	"reflect"
	"slices"
	"testing"

	"quorum/api"
	"quorum/cluster"
)

// spoil writes over all that a value reaches, spare room included.
func spoil(v reflect.Value) {
	switch v.Kind() {
	case reflect.Slice:
		whole := v.Slice(0, v.Cap())
		for i := range whole.Len() {
			spoil(whole.Index(i))
		}
	case reflect.Array:
		for i := range v.Len() {
			spoil(v.Index(i))
		}
	case reflect.Struct:
		for i := range v.NumField() {
			spoil(v.Field(i))
		}
	case reflect.Bool:
		v.SetBool(!v.Bool())
	case reflect.Uint8, reflect.Uint32, reflect.Uint64:
		v.SetUint(v.Uint() ^ 0xEE)
	case reflect.Int:
		v.SetInt(v.Int() ^ 0xEE)
	}
}

// spoilt writes over what a pointer points to.
func spoilt(p any) { spoil(reflect.ValueOf(p).Elem()) }

// span is the memory of a list, spare room included.
type span struct{ from, to uintptr }

// spans gives the memory of all lists that a value reaches; a list without elements must be nil.
func spans(t testing.TB, v reflect.Value, list []span) []span {
	t.Helper()
	switch v.Kind() {
	case reflect.Slice:
		if v.Len() == 0 && !v.IsNil() {
			t.Fatal("a list without elements is not nil")
		}
		if v.Cap() > 0 {
			list = append(list, span{v.Pointer(), v.Pointer() + uintptr(v.Cap())*v.Type().Elem().Size()})
		}
		if v.Type().Elem().Kind() == reflect.Uint8 {
			return list
		}
		for i := range v.Len() {
			list = spans(t, v.Index(i), list)
		}
	case reflect.Struct:
		for i := range v.NumField() {
			list = spans(t, v.Field(i), list)
		}
	}
	return list
}

// apart wants no two lists of an answer to share any memory, and none to be empty but not nil.
func apart(t testing.TB, what string, answer any) {
	t.Helper()
	list := spans(t, reflect.ValueOf(answer), nil)
	slices.SortFunc(list, func(a, b span) int {
		if a.from < b.from {
			return -1
		}
		return 1
	})
	for i := 1; i < len(list); i++ {
		if list[i].from < list[i-1].to {
			t.Fatalf("%s: two lists share memory: %+v", what, answer)
		}
	}
}

// deep gives a copy of an event that shares nothing with it.
func deep(e api.Event) api.Event {
	e.Data, e.Tears = slices.Clone(e.Data), slices.Clone(e.Tears)
	return e
}

// Two clusters are told the same. What one is handed, and what it hands out, is written over at once: they stay alike. No two lists of any answer share memory.
func TestOwn(t *testing.T) {
	for at, s := range shapes() {
		mine := s
		mine.Accounts, mine.Clients = slices.Clone(s.Accounts), slices.Clone(s.Clients)
		c, x := begun(t, mine), begun(t, s)
		if !same(mine, s) {
			t.Fatalf("New has changed what it was handed: %+v, was %+v", mine, s)
		}
		spoilt(&mine)
		d := newChaos(t, s, x, uint64(40+at))
		for i := range 500 {
			e := d.event()
			given := deep(e)
			want := do(t, x, e)
			got, err := c.Do(given)
			if err != nil || !same(got, want) || !same(given, deep(e)) {
				t.Fatalf("shape %d, event %d, %+v: %+v (%v), want %+v", at, i, given, got, err, want)
			}
			apart(t, "Do", got)
			spoilt(&got)
			spoilt(&given)
			l := lookAt(c, s)
			if !same(l, lookAt(x, s)) {
				t.Fatalf("shape %d, event %d, %+v: %+v, want %+v", at, i, e, l, lookAt(x, s))
			}
			apart(t, "Flight", l.flight)
			apart(t, "Node", l.nodes[0])
			apart(t, "Disk", l.disks[1])
			apart(t, "Client", l.clients[0])
			spoilt(&l.flight)
			spoilt(&l.nodes)
			spoilt(&l.disks)
			spoilt(&l.clients)
		}
	}
}

// A script and a setup that Run is handed stay as they were, and no two lists of its answer share memory.
func TestOwnRun(t *testing.T) {
	s := shapes()[0]
	script, _ := drawn(t, s, 9, 600)
	mine := make([]api.Event, len(script))
	for i, e := range script {
		mine[i] = deep(e)
	}
	got, err := cluster.Run(s, script)
	if err != nil || !same(script, mine) || !same(s, shapes()[0]) {
		t.Errorf("Run has changed what it was handed (%v)", err)
	}
	apart(t, "Run", got)
}
