package code_test

import (
	"strconv"
	"strings"
	"testing"

	"quorum/api"
	"quorum/code"
)

// lists wants List to answer that text.
func lists(t *testing.T, p api.Program, want string) {
	t.Helper()
	was := clone(p)
	got, err := code.List(p)
	if err != nil || got != want {
		t.Errorf("List: %v\n%s\nwant\n%s", err, got, want)
	}
	unchanged(t, p, was)
}

func TestP4_8List(t *testing.T) {
	lists(t, api.Program{Entry: nowhere}, "")
	lists(t, everyOp(), `const 0 0
const 1 1
const 2 2
const 3 3
const 4 5
const 5 100
const 6 18446744073709551615
slot 0 num
slot 1 bool
on fund 0
on dispute 32
on refund 0
0 done
1 tick
2 num 6
3 true
4 false
5 env disputed
6 get 1
7 put 0
8 not
9 eq
10 ne
11 lt
12 le
13 gt
14 ge
15 eqb
16 neb
17 add
18 sub
19 mul
20 div
21 mod
22 min
23 max
24 share
25 jump 3
26 jumpnot 32
27 skipnot 0
28 skipyes 5
29 pay
30 require 999
31 fail 128
32 done
`)
}

func TestP4_8Words(t *testing.T) {
	for i, w := range inputWords {
		lists(t, bare("env "+strconv.Itoa(i)), "0 env "+w+"\n")
	}
	for e, w := range eventWords {
		p := bare("done, done")
		p.Entry[e] = 1
		lists(t, p, "on "+w+" 1\n0 done\n1 done\n")
	}
	p := bare("done")
	p.Entry = [6]int{0, 0, 0, 0, 0, 0}
	lists(t, p, "on fund 0\non release 0\non dispute 0\non arbitrate 0\non refund 0\non expire 0\n0 done\n")
}

// Many programs: the listing has a line for each part, and the instructions can be read back from it.
func TestP4_8Any(t *testing.T) {
	d := &dice{8}
	for range 500 {
		p := someProgram(d, 1+d.below(60))
		text, err := code.List(p)
		isFault(t, "List", err, api.OK, 0)
		lines := strings.Split(text, "\n")
		last := len(lines) - 1
		if lines[last] != "" {
			t.Errorf("no line feed at the end")
		}
		var read []string
		for at, line := range lines[last-len(p.Ins) : last] {
			place, rest, _ := strings.Cut(line, " ")
			if place != strconv.Itoa(at) {
				t.Errorf("line %q, want place %d", line, at)
			}
			for i, w := range inputWords {
				rest = strings.Replace(rest, "env "+w, "env "+strconv.Itoa(i), 1)
			}
			read = append(read, rest)
		}
		back := clone(p)
		back.Ins = asm(strings.Join(read, ","))
		if !same(back, p) {
			t.Errorf("%s is read back as %v, was %v", text, back, p)
		}
	}
	full, _ := code.List(largest())
	if n := strings.Count(full, "\n"); n != 256+128+6+1024 {
		t.Errorf("the largest program has %d lines", n)
	}
}
