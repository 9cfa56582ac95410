package emit

import (
	"iter"
	"strconv"
	"strings"

	"recoup/api"
)

const (
	first     = "program"
	lineEnd   = "\n"
	blank     = " "
	mostWords = 3 + api.MaxSide // of a first line that has all numbers of Reads
)

// words has the word that begins the line of a step of each kind.
var words = [...]string{
	api.XClear: "clear",
	api.XLoad:  "load",
	api.XMac:   "mac",
	api.XOut:   "out",
}

// Text is p's lines.
func Text(p api.Program) (string, api.Errno) {
	if !canBeWritten(p) {
		return "", api.ErrArg
	}
	numbers := []int{p.Regs, p.Outs}
	for i := range api.MaxSide {
		if p.Reads>>i&1 == 1 {
			numbers = append(numbers, i)
		}
	}
	text := withLine(nil, first, numbers)
	for _, step := range p.Steps {
		text = withLine(text, words[step.Kind], numbersOf(step))
	}
	return string(text), api.OK
}

func withLine(text []byte, word string, numbers []int) []byte {
	text = append(text, word...)
	for _, number := range numbers {
		text = append(text, blank...)
		text = strconv.AppendInt(text, int64(number), 10)
	}
	return append(text, lineEnd...)
}

// ReadText is the program whose lines s is, or the number of the first line that
// is none.
func ReadText(s string) (p api.Program, line int, e api.Errno) {
	for at, told := range lines(s) {
		if !readLine(&p, at, told) {
			return api.Program{}, at, api.ErrForm
		}
	}
	return p, 0, api.OK
}

// lines cuts s behind each byte 10, and tells each line's number, from 1 on. There
// always is a first line, if an empty one.
func lines(s string) iter.Seq2[int, string] {
	return func(yield func(int, string) bool) {
		rest := s
		for at := 1; at == 1 || rest != ""; at++ {
			size := len(rest)
			if end := strings.Index(rest, lineEnd); end >= 0 {
				size = end + len(lineEnd)
			}
			if !yield(at, rest[:size]) {
				return
			}
			rest = rest[size:]
		}
	}
}

// readLine puts to p what a line tells, if it is one that may stand at this place.
func readLine(p *api.Program, at int, line string) bool {
	told, ended := strings.CutSuffix(line, lineEnd)
	if !ended {
		return false
	}
	// A line may be of any length: no more words are cut off than a right one has.
	list := strings.SplitN(told, blank, mostWords)
	if at == 1 {
		return readFirst(p, list)
	}
	return len(p.Steps) < api.MaxSteps && readStep(p, list)
}

func readFirst(p *api.Program, list []string) bool {
	if list[0] != first || len(list) < 3 || !readNumber(&p.Regs, list[1], api.MaxRegs) || !readNumber(&p.Outs, list[2], api.MaxSide) {
		return false
	}
	for _, word := range list[3:] {
		i := 0
		if !readNumber(&i, word, api.MaxSide-1) || p.Reads>>i != 0 {
			return false
		}
		p.Reads |= 1 << i
	}
	return true
}

func readStep(p *api.Program, list []string) bool {
	kind := kindOf(list[0])
	if kind == api.NoStep || len(list) != 1+len(fields[kind]) {
		return false
	}
	numbers := make([]int, len(fields[kind]))
	for i, word := range list[1:] {
		if !readNumber(&numbers[i], word, mostField) {
			return false
		}
	}
	p.Steps = append(p.Steps, stepOf(kind, numbers))
	return true
}

// kindOf is the kind whose lines begin with this word, if there is one.
func kindOf(word string) api.StepKind {
	for kind := api.XClear; kind <= api.XOut; kind++ {
		if words[kind] == word {
			return kind
		}
	}
	return api.NoStep
}

// readNumber reads a word that a number from 0 to most is written by. Other words
// of which strconv makes a number, too, are not how that number is written.
func readNumber(n *int, word string, most int) bool {
	*n, _ = strconv.Atoi(word)
	return isFrom0To(*n, most) && strconv.Itoa(*n) == word
}
