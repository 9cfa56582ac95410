package emit_test

import (
	"encoding/binary"
	"fmt"
	"regexp"
	"slices"
	"strconv"
	"strings"

	"recoup/api"
)

// What the tests hold the package against: numbers by their binary digits, bytes
// taken one by one, lines held against patterns of letters. None of it asks the
// project's packages.

// told is a program as the chapter writes it, with all that its steps' fields
// have: what is told alike is the same.
func told(p api.Program) string {
	var list []string
	for _, step := range p.Steps {
		list = append(list, toldStep(step))
	}
	return strings.Join(list, "; ") + ": Regs " + strconv.Itoa(p.Regs) + ", Outs " + strconv.Itoa(p.Outs) + ", Reads " + fmt.Sprint(toldSet(p.Reads))
}

func toldStep(step api.Step) string {
	list := []string{"kind " + strconv.Itoa(int(step.Kind)), strconv.Itoa(step.D), strconv.Itoa(step.S), strconv.Itoa(int(step.C))}
	switch {
	case step == api.Step{Kind: 1, D: step.D}:
		list = []string{"clear", list[1]}
	case step == api.Step{Kind: 2, D: step.D, S: step.S}:
		list = []string{"load", list[1], list[2]}
	case step == api.Step{Kind: 3, D: step.D, S: step.S, C: step.C}:
		list[0] = "mac"
	case step == api.Step{Kind: 4, D: step.D, S: step.S}:
		list = []string{"out", list[1], list[2]}
	}
	return strings.Join(list, " ")
}

func toldSet(set api.Set) []int {
	var list []int
	for i := range 64 {
		if set>>i&1 == 1 {
			list = append(list, i)
		}
	}
	return list
}

// steps reads steps as the chapter writes them.
func steps(text string) []api.Step {
	kinds := map[string]api.StepKind{"clear": 1, "load": 2, "mac": 3, "out": 4}
	var made []api.Step
	for told := range strings.SplitSeq(text, "; ") {
		if told == "" {
			continue
		}
		words := append(strings.Fields(told), "0", "0")
		var fields [3]int
		for i := range fields {
			fields[i], _ = strconv.Atoi(words[i+1])
		}
		made = append(made, api.Step{Kind: kinds[words[0]], D: fields[0], S: fields[1], C: byte(fields[2])})
	}
	return made
}

// slowCan holds a program against the words of the chapter, one after the other.
func slowCan(p api.Program) bool {
	can := p.Regs >= 0 && p.Regs <= 256 && p.Outs >= 0 && p.Outs <= 64 && len(p.Steps) <= 65536
	for _, step := range p.Steps {
		can = can && step.D >= 0 && step.D <= 255 && step.S >= 0 && step.S <= 255
		switch step.Kind {
		case 1:
			can = can && step.S == 0 && step.C == 0
		case 2, 4:
			can = can && step.C == 0
		case 3:
		default:
			can = false
		}
	}
	return can
}

// slowNum takes the binary digits of a number in groups of seven from the end.
func slowNum(n int) []byte {
	digits := strconv.FormatInt(int64(n), 2)
	var made []byte
	for len(digits) > 7 {
		group, _ := strconv.ParseUint("1"+digits[len(digits)-7:], 2, 8)
		made = append(made, byte(group))
		digits = digits[:len(digits)-7]
	}
	group, _ := strconv.ParseUint(digits, 2, 7)
	return append(made, byte(group))
}

func slowStep(step api.Step) []byte {
	d, s := byte(step.D), byte(step.S)
	return [][]byte{{1, d}, {2, d, s}, {3, d, s, step.C}, {4, d, s}}[step.Kind-1]
}

// slowWrite are the bytes of a program that can be written.
func slowWrite(p api.Program) []byte {
	b := append(slowNum(p.Regs), slowNum(p.Outs)...)
	b = binary.BigEndian.AppendUint64(b, uint64(p.Reads))
	b = append(b, slowNum(len(p.Steps))...)
	for _, step := range p.Steps {
		b = append(b, slowStep(step)...)
	}
	return b
}

// slowRead takes byte by byte, and breaks off at the first one that does not fit.
func slowRead(b []byte) (p api.Program, size int, e api.Errno) {
	defer func() {
		if fault := recover(); fault != nil {
			p, size, e = api.Program{}, 0, fault.(api.Errno)
		}
	}()
	next := func() int {
		if size == len(b) {
			panic(api.Errno(7))
		}
		size++
		return int(b[size-1])
	}
	fits := func(does bool) {
		if !does {
			panic(api.Errno(8))
		}
	}
	number := func(most int) int {
		digits := ""
		for i := 1; ; i++ {
			x := next()
			fits((i == 1 || x > 0) && (i < 9 || x < 128))
			digits = fmt.Sprintf("%07b", x%128) + digits
			if x < 128 {
				n, _ := strconv.ParseInt(digits, 2, 64)
				fits(n <= int64(most))
				return int(n)
			}
		}
	}
	p.Regs, p.Outs = number(256), number(64)
	for range 8 {
		p.Reads = p.Reads*256 + api.Set(next())
	}
	for range number(65536) {
		step := api.Step{Kind: api.StepKind(next())}
		fits(step.Kind >= 1 && step.Kind <= 4)
		step.D = next()
		if step.Kind > 1 {
			step.S = next()
		}
		if step.Kind == 3 {
			step.C = byte(next())
		}
		p.Steps = append(p.Steps, step)
	}
	return p, size, 0
}

// slowText are the lines of a program that can be written.
func slowText(p api.Program) string {
	list := []string{fmt.Sprintf("program %d %d", p.Regs, p.Outs)}
	for _, i := range toldSet(p.Reads) {
		list[0] += fmt.Sprintf(" %d", i)
	}
	for _, step := range p.Steps {
		list = append(list, toldStep(step))
	}
	return strings.Join(list, "\n") + "\n"
}

var (
	aFirst = regexp.MustCompile(strings.ReplaceAll(`^program (N) (N)((?: N)*)\n$`, "N", "(?:0|[1-9][0-9]{0,2})"))
	aStep  = regexp.MustCompile(strings.ReplaceAll(`^(?:clear N|load N N|mac N N N|out N N)\n$`, "N", "(?:0|[1-9][0-9]{0,2})"))
)

// within are the numbers of some words, if none is above most.
func within(list string, most int) (numbers []int, are bool) {
	are = true
	for word := range strings.FieldsSeq(list) {
		n, _ := strconv.Atoi(word)
		numbers = append(numbers, n)
		are = are && n <= most
	}
	return numbers, are
}

// slowReadText holds line by line against a pattern.
func slowReadText(s string) (p api.Program, line int, e api.Errno) {
	list := strings.SplitAfter(s, "\n")
	if len(list) > 1 && list[len(list)-1] == "" {
		list = list[:len(list)-1]
	}
	for i, told := range list {
		fits := i <= 65536
		if found := aFirst.FindStringSubmatch(told); i == 0 && found != nil {
			regs, isRegs := within(found[1], 256)
			outs, isOuts := within(found[2], 64)
			reads, isReads := within(found[3], 63)
			fits = isRegs && isOuts && isReads
			for j, number := range reads {
				fits = fits && (j == 0 || reads[j-1] < number)
				p.Reads |= 1 << number
			}
			p.Regs, p.Outs = regs[0], outs[0]
		} else if i > 0 && aStep.MatchString(told) {
			word, numbers, _ := strings.Cut(told, " ")
			_, are := within(numbers, 255)
			fits = fits && are
			p.Steps = append(p.Steps, steps(word+" "+strings.TrimSpace(numbers))...)
		} else {
			fits = false
		}
		if !fits {
			return api.Program{}, i + 1, 8
		}
	}
	return p, 0, 0
}

// joined are lists, one behind the other.
func joined(lists ...[]byte) []byte {
	return slices.Concat(lists...)
}
