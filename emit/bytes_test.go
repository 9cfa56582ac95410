package emit_test

import (
	"bytes"
	"fmt"
	"math"
	"slices"
	"testing"

	"recoup/api"
	"recoup/emit"
)

func writeIs(t *testing.T, name string, p api.Program, want []byte) {
	t.Helper()
	if b, e := emit.Write(p); !bytes.Equal(b, want) || e != api.OK {
		t.Errorf("%s: Write = %.100x, %v, want %.100x", name, b, e, want)
	}
}

func readIs(t *testing.T, name string, b []byte, want api.Program, bytes int) {
	t.Helper()
	if p, size, e := emit.Read(b); told(p) != told(want) || size != bytes || e != api.OK {
		t.Errorf("%s: Read = %.300s, %d, %v, want %.300s, %d", name, told(p), size, e, told(want), bytes)
	}
}

func readFails(t *testing.T, name string, b []byte, wrong api.Errno) {
	t.Helper()
	if p, size, e := emit.Read(b); told(p) != told(api.Program{}) || len(p.Steps) != 0 || size != 0 || e != wrong {
		t.Errorf("%s: Read(%.100x) = %.300s, %d, %v, want %v", name, b, told(p), size, e, wrong)
	}
}

// chaptersBytes are those of the chapter's program.
func chaptersBytes() []byte {
	return []byte{1, 0, 0, 0, 0, 0, 0, 0, 0, 0, 2, 1, 0, 3, 0, 0, 7}
}

// P24.1
func TestWriteAtTheEdges(t *testing.T) {
	noughts := make([]byte, 8)
	for _, c := range []struct {
		name string
		p    api.Program
		want []byte
	}{
		{"the chapter's first", api.Program{}, make([]byte, 11)},
		{"the chapter's second", chapters(), chaptersBytes()},
		{"Regs of two bytes", api.Program{Regs: 128}, joined([]byte{0x80, 1, 0}, noughts, []byte{0})},
		{"most Regs", api.Program{Regs: 256}, joined([]byte{0x80, 2, 0}, noughts, []byte{0})},
		{"most Outs", api.Program{Outs: 64}, joined([]byte{0, 64}, noughts, []byte{0})},
		{"the block 0", api.Program{Reads: 1}, []byte{0, 0, 0, 0, 0, 0, 0, 0, 0, 1, 0}},
		{"the block 63", api.Program{Reads: 1 << 63}, []byte{0, 0, 0x80, 0, 0, 0, 0, 0, 0, 0, 0}},
		{"the blocks 8 and 17", api.Program{Reads: 1<<8 | 1<<17}, []byte{0, 0, 0, 0, 0, 0, 0, 2, 1, 0, 0}},
		{"all blocks", api.Program{Reads: math.MaxUint64}, []byte{0, 0, 255, 255, 255, 255, 255, 255, 255, 255, 0}},
		{"each kind", api.Program{Steps: steps("out 1 2; mac 3 4 5; load 6 7; clear 8")}, joined(make([]byte, 10), []byte{4, 4, 1, 2, 3, 3, 4, 5, 2, 6, 7, 1, 8})},
		{"most of all fields", api.Program{Steps: steps("mac 255 255 255")}, joined(make([]byte, 10), []byte{1, 3, 255, 255, 255})},
		{"300 steps", api.Program{Steps: slices.Repeat(steps("clear 9"), 300)}, joined(make([]byte, 10), []byte{0xac, 2}, bytes.Repeat([]byte{1, 9}, 300))},
		{"most steps", api.Program{Steps: slices.Repeat(steps("clear 9"), 65536)}, joined(make([]byte, 10), []byte{0x80, 0x80, 4}, bytes.Repeat([]byte{1, 9}, 65536))},
	} {
		writeIs(t, c.name, c.p, c.want)
		readIs(t, c.name, c.want, c.p, len(c.want))
	}
}

func TestWriteOfProgramsOfAllKinds(t *testing.T) {
	everyProgram(func(name string, p api.Program) {
		writeIs(t, name, p, slowWrite(p))
	})
}

func TestReadOfProgramsOfAllKinds(t *testing.T) {
	everyProgram(func(name string, p api.Program) {
		b := slowWrite(p)
		readIs(t, name, b, p, len(b))
		for _, more := range [][]byte{{0}, {0xff}, {1, 2, 3, 4}, b} {
			readIs(t, name+" and more", joined(b, more), p, len(b))
		}
	})
}

func TestReadAtTheEdges(t *testing.T) {
	chapter := chaptersBytes()
	readIs(t, "the chapter's and ff", append(chapter, 0xff), chapters(), 17)
	readFails(t, "the chapter's without its last byte", chapter[:16], api.ErrShort)
	readFails(t, "the chapter's with 05", turned(chapter, 13, 5), api.ErrForm)
	readFails(t, "the chapter's none", nil, api.ErrShort)
}

// turned are bytes in which one stands for others.
func turned(b []byte, at int, by ...byte) []byte {
	return joined(b[:at], by, b[at+1:])
}

// Of bytes that end too early there is just one error, wherever they end.
func TestBytesThatAreWanting(t *testing.T) {
	look := func(name string, p api.Program) {
		b := slowWrite(p)
		for size := range b {
			if size < 60 || size > len(b)-20 {
				readFails(t, fmt.Sprint(name, ", of ", size, " bytes"), b[:size], api.ErrShort)
			}
		}
	}
	for _, k := range append(atEdges()[:150], ofFlows()...) {
		look(k.name, k.p)
	}
	for seed := range 300 {
		s := seeded(seed)
		look(fmt.Sprint("seed ", seed), s.program(s.below(20)))
	}
	look("most steps", long(65536))
}

// numbersAt are the three numbers of the bytes of a program, each with what
// stands ahead of it, and behind it.
func numbersAt() map[string][2][]byte {
	noughts := make([]byte, 8)
	return map[string][2][]byte{
		"Regs":  {nil, joined([]byte{0}, noughts, []byte{1, 1, 0})},
		"Outs":  {{0x80, 2}, joined(noughts, []byte{1, 1, 0})},
		"steps": {joined([]byte{1, 64}, noughts), {1, 0}},
	}
}

// A number above its limit is found where it stands: it does not matter how the
// bytes go on.
func TestNumbersAboveTheirLimits(t *testing.T) {
	limits := map[string]int{"Regs": 256, "Outs": 64, "steps": 65536}
	for what, around := range numbersAt() {
		for _, n := range append(edges(), limits[what]+1, limits[what]+2, 2*limits[what]) {
			if n <= limits[what] {
				continue
			}
			for _, behind := range [][]byte{around[1], nil, {0xff}, {0x80, 0}, {5}, bytes.Repeat([]byte{0xff}, 20)} {
				readFails(t, fmt.Sprint(what, " ", n), joined(around[0], slowNum(n), behind), api.ErrForm)
			}
		}
	}
}

// The forms that wire.ReadNum refuses are refused as it does.
func TestNumbersThatAreNone(t *testing.T) {
	for what, around := range numbersAt() {
		for _, form := range [][]byte{{0x80, 0}, {0x81, 0}, {0x80, 0x80, 0}, {0xff, 0xff, 0xff, 0}, bytes.Repeat([]byte{0xff}, 9), bytes.Repeat([]byte{0x80}, 9), joined(bytes.Repeat([]byte{0x80}, 8), []byte{0})} {
			for _, behind := range [][]byte{around[1], nil, {0xff}, {5}} {
				readFails(t, what, joined(around[0], form, behind), api.ErrForm)
			}
			readFails(t, what+" is wanting", joined(around[0], bytes.Repeat([]byte{0x80}, len(form)-1)), api.ErrShort)
		}
		readFails(t, what+" is wanting", around[0], api.ErrShort)
	}
}

// A Kind that there is not is found at its byte, ahead of what is wanting there.
func TestKindsThatThereAreNot(t *testing.T) {
	p := api.Program{Steps: steps("clear 1; load 2 3; mac 4 5 6; out 7 8; clear 9"), Regs: 200, Outs: 3, Reads: 77}
	b := slowWrite(p)
	for _, at := range []int{12, 14, 17, 21, 24} {
		for kind := range 256 {
			if kind >= 1 && kind <= 4 {
				continue
			}
			readFails(t, fmt.Sprint("a kind ", kind, " at ", at), turned(b, at, byte(kind)), api.ErrForm)
			readFails(t, fmt.Sprint("a kind ", kind, " at the end ", at), append(slices.Clone(b[:at]), byte(kind)), api.ErrForm)
			readFails(t, fmt.Sprint("a kind ", kind, " and noughts at ", at), joined(b[:at], []byte{byte(kind), 0, 0, 0}), api.ErrForm)
		}
	}
	for kind := range 256 {
		readIs(t, "a kind behind the last step", append(slices.Clone(b), byte(kind)), p, len(b))
	}
}

// The errors are told from the left: each of these has two.
func TestTheFirstErrorOfBytes(t *testing.T) {
	noughts := make([]byte, 8)
	for _, c := range []struct {
		name string
		b    []byte
		want api.Errno
	}{
		{"Regs, Outs", []byte{0x81, 2, 65}, api.ErrForm},
		{"Regs of a wrong form, nothing behind", []byte{0x80, 0}, api.ErrForm},
		{"Outs, bytes wanting", []byte{0, 65, 0, 0}, api.ErrForm},
		{"bytes wanting in Reads ahead of anything", []byte{0, 64, 255, 255, 255, 255, 255, 255, 255}, api.ErrShort},
		{"no number of steps", joined([]byte{0, 64}, noughts), api.ErrShort},
		{"steps, a kind", joined([]byte{0, 64}, noughts, []byte{0x81, 0x80, 4, 5}), api.ErrForm},
		{"a kind, bytes wanting", joined([]byte{0, 64}, noughts, []byte{2, 0}), api.ErrForm},
		{"bytes wanting ahead of a kind", joined([]byte{0, 64}, noughts, []byte{2, 3, 5, 5}), api.ErrShort},
		{"a kind behind others", joined([]byte{0, 64}, noughts, []byte{2, 3, 5, 5, 5, 5}), api.ErrForm},
		{"a kind wanting", joined([]byte{0, 64}, noughts, []byte{2, 3, 5, 5, 5}), api.ErrShort},
		{"many kinds wanting", joined([]byte{0, 64}, noughts, []byte{0x80, 0x80, 4, 1, 5}), api.ErrShort},
		{"a kind, many wanting", joined([]byte{0, 64}, noughts, []byte{0x80, 0x80, 4, 1, 5, 0}), api.ErrForm},
	} {
		readFails(t, c.name, c.b, c.want)
	}
}

// likeSlow holds Read against the model; what is read is written as it was read.
func likeSlow(t *testing.T, name string, b []byte) api.Errno {
	t.Helper()
	want, bytes, wrong := slowRead(b)
	if wrong != api.OK {
		readFails(t, name, b, wrong)
		return wrong
	}
	readIs(t, name, b, want, bytes)
	writeIs(t, name, want, b[:bytes])
	return wrong
}

func TestReadOfAnyBytes(t *testing.T) {
	found := map[api.Errno]int{}
	for seed := range 20000 {
		s := seeded(seed)
		b := s.list(s.below(40))
		for i := range b {
			b[i] = one(s, []byte{b[i], b[i] % 8, b[i] % 2, 0})
		}
		found[likeSlow(t, fmt.Sprint("seed ", seed), b)]++
	}
	for _, e := range []api.Errno{api.OK, api.ErrShort, api.ErrForm} {
		if found[e] < 500 {
			t.Errorf("%v is told %d times", e, found[e])
		}
	}
}

// Each byte of some programs becomes each other one, is taken out, and stands
// twice.
func TestReadOfBytesThatAreTurned(t *testing.T) {
	for seed := range 30 {
		s := seeded(seed)
		b := slowWrite(s.program(s.below(8)))
		for at := range b {
			for by := range 256 {
				likeSlow(t, "turned", turned(b, at, byte(by)))
			}
			likeSlow(t, "taken out", turned(b, at))
			likeSlow(t, "twice", turned(b, at, b[at], b[at]))
		}
	}
}
