package code_test

import (
	"slices"
	"testing"

	"quorum/api"
	"quorum/code"
)

// hasProgram wants just that program of a text.
func hasProgram(t *testing.T, src string, consts []uint64, slots []int, entry [6]int, text string) {
	t.Helper()
	want := api.Program{Consts: consts, Slots: slots, Entry: entry, Ins: asm(text)}
	if got := compiled(t, src); !same(got, want) {
		t.Errorf("%s:\n%v, want\n%v", src, got, want)
	}
}

func TestExample1(t *testing.T) {
	hasProgram(t, "on release { pay held to seller; }", []uint64{2}, nil, [6]int{-1, 0, -1, -1, -1, -1}, "tick, env 2, num 0, pay, done")
	lists(t, compiled(t, "on release { pay held to seller; }"), `const 0 2
on release 0
0 tick
1 env held
2 num 0
3 pay
4 done
`)
}

func TestExample2(t *testing.T) {
	src := "on fund { let n = 0; while n < 3 { set n = n + 1; } }"
	hasProgram(t, src, []uint64{0, 3, 1}, []int{0}, [6]int{0, -1, -1, -1, -1, -1}, "tick, num 0, put 0, tick, tick, get 0, num 1, lt, jumpnot 15, tick, get 0, num 2, add, put 0, jump 4, done")
	runs(t, compiled(t, src), api.EvFund, api.TermsEnv{}, 50, end(api.EndDone, 41))
}

func TestExample3(t *testing.T) {
	src := "on fund { while true { break; } }"
	entry := [6]int{0, -1, -1, -1, -1, -1}
	hasProgram(t, src, nil, nil, entry, "tick, tick, true, jumpnot 7, tick, jump 7, jump 1, done")
	tidies(t, compiled(t, src), api.Program{Entry: entry, Ins: asm("tick, tick, true, jumpnot 5, tick, done")})
}

func TestExample4(t *testing.T) {
	src := "on refund { require disputed or caller == buyer, 7; }"
	hasProgram(t, src, []uint64{1}, nil, [6]int{-1, -1, -1, -1, 0, -1}, "tick, env 7, skipyes 6, env 0, num 0, eq, require 7, done")
	p := compiled(t, src)
	hasShape(t, p, 6, "t")
	hasShape(t, p, 5, "nn")
	hasShape(t, p, 3, "")
}

func TestExample5(t *testing.T) {
	refused(t, fund("not"), api.ErrCodeEmpty, 0)
	refused(t, fund("true, add"), api.ErrCodeEmpty, 1)
	refused(t, fund("true, true, add"), api.ErrCodeKind, 2)
	refused(t, fund("tick"), api.ErrCodeEnd, 0)
	refused(t, fund("true, jump 0"), api.ErrCodeLoop, 1)
	refused(t, fund("tick, true, jump 0"), api.ErrCodeMerge, 2)
	refused(t, fund("jump 0"), api.ErrCodeLoop, 0)
}

func TestExample6(t *testing.T) {
	verified(t, bare("add"))
	tidies(t, bare("add"), api.Program{Entry: nowhere})
}

func TestExample7(t *testing.T) {
	refused(t, fund(times(65, "true,")+"done"), api.ErrCodeDeep, 64)
}

// packedExample is the eighth example's bytes.
var packedExample = []byte{0x51, 0x43, 0x01, 0x01, 0x02, 0x00, 0x00, 0x01, 0x00, 0x00, 0x00, 0x00, 0x05, 0x01, 0x05, 0x02, 0x02, 0x00, 0x1D, 0x20}

func TestExample8(t *testing.T) {
	packs(t, compiled(t, "on release { pay held to seller; }"), packedExample)
}

func TestExample9(t *testing.T) {
	more := append(slices.Clone(packedExample), 0)
	_, err := code.Unpack(more)
	isLower(t, "a byte more", err, 20, &api.Fault{Layer: "wire", At: 20, Err: api.ErrWireTail})
	turned := func(at int, b byte) []byte {
		out := slices.Clone(packedExample)
		out[at] = b
		return out
	}
	noUnpack(t, turned(13, 0x21), api.ErrCodeOp, 13)
	noUnpack(t, turned(15, 0x08), api.ErrCodeArg, 1)
}

func TestExample10(t *testing.T) {
	p := compiled(t, "on fund { let x = share(18446744073709551615, 7, 7); pay x to 4; }")
	for _, fuel := range []uint64{2, 3, 50, 1000} {
		runs(t, p, api.EvFund, api.TermsEnv{Held: 5}, fuel, end(api.EndParty, fuel-2))
	}
}

// The terms of the whole's second example.
func TestExampleOfTheWhole(t *testing.T) {
	p := compiled(t, "on release { require caller == buyer, 7; pay share(held, 1, 10) to arbiter; }")
	runs(t, p, api.EvRelease, api.TermsEnv{Caller: api.Buyer, Held: 50}, api.MaxFuel, paid(0, 0, 5, 998))
	runs(t, p, api.EvRelease, api.TermsEnv{Caller: api.Seller, Held: 50}, api.MaxFuel, failed(7, 999))
}

// A call that is made again, or at the same time as another, answers the same: nothing is kept.
func TestNothingIsKept(t *testing.T) {
	src := "on fund { let n = 0; while n < 3 { set n = n + 1; } }"
	list, p := read(t, src), compiled(t, src)
	b, _ := code.Pack(p)
	done := make(chan bool)
	for range 8 {
		go func() {
			defer func() { done <- true }()
			for range 50 {
				again, err := code.Compile(list)
				if err != nil || !same(again, p) {
					t.Errorf("Compile: %v, %v", again, err)
				}
				packs(t, p, b)
				runs(t, p, api.EvFund, api.TermsEnv{}, 50, end(api.EndDone, 41))
				refused(t, fund("true, add"), api.ErrCodeEmpty, 1)
				_, err = code.Unpack(nil)
				isLower(t, "no byte", err, 0, &api.Fault{Layer: "wire", At: 0, Err: api.ErrWireShort})
			}
		}()
	}
	for range 8 {
		<-done
	}
}
