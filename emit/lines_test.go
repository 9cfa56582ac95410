package emit_test

import (
	"fmt"
	"math"
	"slices"
	"strconv"
	"strings"
	"testing"

	"recoup/api"
	"recoup/emit"
)

func textIs(t *testing.T, name string, p api.Program, want string) {
	t.Helper()
	if s, e := emit.Text(p); s != want || e != api.OK {
		t.Errorf("%s: Text = %.300q, %v, want %.300q", name, s, e, want)
	}
}

func readTextIs(t *testing.T, name, s string, want api.Program) {
	t.Helper()
	if p, line, e := emit.ReadText(s); told(p) != told(want) || line != 0 || e != api.OK {
		t.Errorf("%s: ReadText(%.300q) = %.300s, %d, %v, want %.300s", name, s, told(p), line, e, told(want))
	}
}

func readTextFails(t *testing.T, name, s string, at int) {
	t.Helper()
	if p, line, e := emit.ReadText(s); told(p) != told(api.Program{}) || len(p.Steps) != 0 || line != at || e != api.ErrForm {
		t.Errorf("%s: ReadText(%.300q) = %.300s, %d, %v, want ErrForm at %d", name, s, told(p), line, e, at)
	}
}

// P24.2
func TestTextAtTheEdges(t *testing.T) {
	for _, c := range []struct {
		name string
		p    api.Program
		want string
	}{
		{"the chapter's", chapters(), "program 1 0\nclear 0\nmac 0 0 7\n"},
		{"nothing", api.Program{}, "program 0 0\n"},
		{"most Regs and Outs", api.Program{Regs: 256, Outs: 64}, "program 256 64\n"},
		{"one block", api.Program{Reads: 1}, "program 0 0 0\n"},
		{"the last block", api.Program{Reads: 1 << 63}, "program 0 0 63\n"},
		{"some blocks", api.Program{Regs: 10, Outs: 2, Reads: 1<<10 | 1<<9 | 1<<2}, "program 10 2 2 9 10\n"},
		{"each kind", api.Program{Steps: steps("out 1 2; mac 3 4 5; load 6 7; clear 8")}, "program 0 0\nout 1 2\nmac 3 4 5\nload 6 7\nclear 8\n"},
		{"most of all fields", api.Program{Steps: steps("clear 255; load 255 255; mac 255 255 255; out 255 255")}, "program 0 0\nclear 255\nload 255 255\nmac 255 255 255\nout 255 255\n"},
		{"numbers of one, two, three digits", api.Program{Steps: steps("mac 9 10 99; mac 100 101 0")}, "program 0 0\nmac 9 10 99\nmac 100 101 0\n"},
		{"most steps", api.Program{Steps: slices.Repeat(steps("clear 7"), 65536)}, "program 0 0\n" + strings.Repeat("clear 7\n", 65536)},
	} {
		textIs(t, c.name, c.p, c.want)
		readTextIs(t, c.name, c.want, c.p)
	}
	all := "program 0 0"
	for i := range 64 {
		all += " " + strconv.Itoa(i)
	}
	textIs(t, "all blocks", api.Program{Reads: math.MaxUint64}, all+"\n")
	readTextIs(t, "all blocks", all+"\n", api.Program{Reads: math.MaxUint64})
}

func TestTextOfProgramsOfAllKinds(t *testing.T) {
	everyProgram(func(name string, p api.Program) {
		textIs(t, name, p, slowText(p))
	})
}

func TestReadTextOfProgramsOfAllKinds(t *testing.T) {
	everyProgram(func(name string, p api.Program) {
		readTextIs(t, name, slowText(p), p)
	})
}

func TestReadTextAtTheEdges(t *testing.T) {
	for _, c := range []struct {
		s    string
		line int
	}{
		{"program 1 0\nout 0 01\n", 2}, // the chapter's three
		{"program 0 0", 1},
		{"", 1},
		{"\n", 1},
		{"\n\n", 1},
		{" ", 1},
		{"\nprogram 0 0\n", 1},
		{"program 0 0\n\n", 2},
		{"program 0 0\nclear 0\n\n", 3},
		{"program 0 0\n\nclear 0\n", 2},
		{"program 0 0\nclear 0", 2},
		{"program 0 0\nclear 0\nc", 3},
		{"program 0 0\n ", 2},
		{"program 0 0\n\x00", 2},
		{"clear 0\n", 1},
		{"program 0 0\nprogram 0 0\n", 2},
		{"program 0 0\r\n", 1},
		{"program 0 0\nclear 0\r\n", 2},
		{"\ufeffprogram 0 0\n", 1},
		{"program 0 0\nclear 0\n\xff\n", 3},
		{"program 0 0\nclear 256\nclear\n", 2},
		{"program 0 0\nclear\nclear 256", 2},
		{"program 257 0\nclear 256\n", 1},
		{"program 0 65\nclear", 1},
	} {
		readTextFails(t, "edge", c.s, c.line)
	}
}

// beside are lines that are none, each close to one that is: each line of a
// program, but for something.
func beside(line string) []string {
	words := strings.Split(line, " ")
	made := []string{"", " ", line + " ", " " + line, line + "  ", line + "\r", line + "\t", line + ";", line + "\x00", "\x00" + line, line + " 0 0", line + " 99", line + " x",
		strings.ToUpper(line), strings.ReplaceAll(line, " ", "  "), strings.ReplaceAll(line, " ", "\t"), strings.ReplaceAll(line, " ", ""), strings.ReplaceAll(line, " ", ", "),
		words[0], words[0] + " ", line[1:], "x" + line, words[0] + "s" + line[len(words[0]):], "jump" + line[len(words[0]):], " " + strings.Join(words[1:], " "), strings.Join(words[1:], " ")}
	for i, word := range words {
		made = append(made, strings.Join(slices.Delete(slices.Clone(words), i, i+1), " "))
		if i > 0 {
			for _, other := range wrongNumbers(word) {
				made = append(made, strings.Join(slices.Replace(slices.Clone(words), i, i+1, other), " "))
			}
		}
	}
	return made
}

// wrongNumbers are words that no number below 1000 is written by, made of one.
func wrongNumbers(word string) []string {
	made := []string{"", " ", "0" + word, "00" + word, "+" + word, "-" + word, "-0", word + ".", word + ".0", word + "e0", "0x" + word, "0b1", "0o7", "1_0", word + "_0", word + "\x00", "x", "D", "--1", "٣", "½", "１",
		"9223372036854775808", "-9223372036854775809", "18446744073709551615", "18446744073709551616", "4294967296", "18446744073709551617", "340282366920938463463374607431768211456", strings.Repeat("9", 1000), strings.Repeat("0", 1000), strings.Repeat("0", 1000) + word}
	for _, n := range edges() {
		made = append(made, strconv.Itoa(n))
	}
	return made
}

// Each line of a program's becomes one that is close to it: it is told, and not
// what stands behind it.
func TestLinesThatAreNone(t *testing.T) {
	const whole = "program 5 6 7 8 31\nclear 1\nload 2 3\nmac 4 5 6\nout 7 8\nclear 9\n"
	list := strings.SplitAfter(whole, "\n")
	for i, line := range list[:len(list)-1] {
		ahead := strings.Join(list[:i], "")
		for _, other := range beside(strings.TrimSuffix(line, "\n")) {
			if _, _, e := slowReadText(other + "\n"); i == 0 && e == api.OK {
				continue // A number less, and it is another program's.
			}
			for _, behind := range []string{strings.Join(list[i+1:], ""), "", "clear", "\n", "clear 256\nprogram\n"} {
				readTextFails(t, "beside", ahead+other+"\n"+behind, i+1)
			}
			if other != "" || i == 0 {
				readTextFails(t, "beside, at the end", ahead+other, i+1)
			}
		}
	}
}

func TestNumbersOfTheFirstLine(t *testing.T) {
	for _, rest := range []string{"\n", " 0\n", "\nclear 0\n", "\nclear 256\n"} {
		for n := 257; n < 1000; n++ {
			readTextFails(t, "Regs", fmt.Sprintf("program %d 0%s", n, rest), 1)
		}
		for n := 65; n < 1000; n++ {
			readTextFails(t, "Outs", fmt.Sprintf("program 0 %d%s", n, rest), 1)
		}
		for _, n := range edges() {
			if n < 0 || n > 256 {
				readTextFails(t, "Regs", fmt.Sprintf("program %d 0%s", n, rest), 1)
				readTextFails(t, "Outs", fmt.Sprintf("program 0 %d%s", n, rest), 1)
				readTextFails(t, "Reads", fmt.Sprintf("program 0 0 %d%s", n, rest), 1)
			}
		}
	}
}

// Numbers of Reads rise, each once, up to 63.
func TestReadsThatDoNotRise(t *testing.T) {
	for a := range 66 {
		for b := range 66 {
			s := fmt.Sprintf("program 0 0 %d %d\nclear 3\n", a, b)
			if a < b && b < 64 {
				readTextIs(t, "they rise", s, api.Program{Steps: steps("clear 3"), Reads: 1<<a | 1<<b})
			} else {
				readTextFails(t, "they don't rise", s, 1)
			}
		}
	}
	all := slowText(api.Program{Reads: math.MaxUint64})
	for i := range 65 {
		readTextFails(t, "one more", strings.Replace(all, "\n", fmt.Sprintf(" %d\n", i), 1), 1)
	}
	readTextFails(t, "twice all", strings.Replace(all, "\n", strings.TrimPrefix(all, "program 0 0"), 1), 1)
	for _, reads := range []string{"5 5", "0 0", "63 63", "1 0", "3 4 2", "1 2 3 3", "63 0", "2 64", "64", "0 1 2 3 64", "100", "5 4 3 2 1"} {
		readTextFails(t, "they don't rise", "program 0 0 "+reads+"\n", 1)
	}
}

// No program has more than 65536 steps: the line behind those is none, whatever
// it is.
func TestOneLineTooMany(t *testing.T) {
	p := long(65536)
	s := slowText(p)
	readTextIs(t, "just as many", s, p)
	for _, more := range []string{"clear 0\n", "mac 1 2 3\n", "clear 0", "\n", "x", "program 0 0\n", strings.Repeat("clear 0\n", 70000)} {
		readTextFails(t, "one too many", s+more, 65538)
	}
	readTextFails(t, "one too many, and one that is none ahead", strings.Replace(s, "mac 1 2 3\n", "mac 1 2 03\n", 1)+"clear 0\n", 2)
	readTextFails(t, "the last one without its byte 10", s[:len(s)-1], 65537)
}

// A line may be as long as it likes: it is none.
func TestLinesThatAreLong(t *testing.T) {
	for _, piece := range []string{" ", " 1", "1", "0", " 0 1 2", "program", "\x00", "clear 1", "é"} {
		many := strings.Repeat(piece, 1<<20/len(piece))
		readTextFails(t, "a long first line", many+"\n", 1)
		readTextFails(t, "a long first line", many, 1)
		readTextFails(t, "a long rest of a first line", "program 0 0"+many+"\n", 1)
		readTextFails(t, "a long line", "program 0 0\n"+many+"\n", 2)
		readTextFails(t, "a long rest of a line", "program 0 0\nclear 0"+many+"\n", 2)
		readTextFails(t, "a long rest of a line", "program 0 0\nmac 1"+many, 2)
	}
	readTextFails(t, "many empty lines", strings.Repeat("\n", 1<<20), 1)
	readTextFails(t, "many empty lines behind one", "program 0 0\n"+strings.Repeat("\n", 1<<20), 2)
}

// likeSlowText holds ReadText against the model; what is read is told as it was
// read.
func likeSlowText(t *testing.T, name, s string) api.Errno {
	t.Helper()
	want, line, wrong := slowReadText(s)
	if wrong != api.OK {
		readTextFails(t, name, s, line)
		return wrong
	}
	readTextIs(t, name, s, want)
	textIs(t, name, want, s)
	return wrong
}

func TestReadTextOfAnyPieces(t *testing.T) {
	pieces := []string{"program", "clear", "load", "mac", "out", " ", " ", " 0", " 1", " 7", " 63", " 64", " 65", " 255", " 256", " 257", " 00", "+", "-", "\n", "\n", "\nclear", "\nload", "\nmac", "\nout", "\nclear 5\n", "x"}
	found := map[api.Errno]int{}
	for seed := range 40000 {
		s := seeded(seed)
		text := one(s, []string{"program 0 0", "program 256 64", "program 3", "program 1 1\n", "program 1 1 5 7\nclear 3\n", ""})
		for range s.below(6) {
			text += one(s, pieces)
		}
		found[likeSlowText(t, fmt.Sprint("seed ", seed), text+one(s, []string{"\n", "\n", ""}))]++
	}
	for _, e := range []api.Errno{api.OK, api.ErrForm} {
		if found[e] < 2000 {
			t.Errorf("%v is told %d times", e, found[e])
		}
	}
}

// Each byte of some programs' lines becomes each other one, is taken out, and
// stands twice, and each byte comes ahead of it.
func TestReadTextOfLinesThatAreTurned(t *testing.T) {
	for seed := range 12 {
		s := seeded(seed)
		p := s.program(s.below(5))
		p.Reads &= api.Set(s.below(1<<12)) << s.below(52)
		text := slowText(p)
		for at := range text {
			likeSlowText(t, "taken out", text[:at]+text[at+1:])
			likeSlowText(t, "twice", text[:at+1]+text[at:])
			likeSlowText(t, "ends ahead", text[:at])
			for by := range 256 {
				likeSlowText(t, "turned", text[:at]+string([]byte{byte(by)})+text[at+1:])
				likeSlowText(t, "one more", text[:at]+string([]byte{byte(by)})+text[at:])
			}
		}
	}
}
