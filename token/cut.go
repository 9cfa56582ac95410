package token

import (
	"strconv"

	"recoup/api"
)

// cutter is how far a text has been cut, from the left.
type cutter struct {
	text  string
	begin int // the first byte of what is being cut
	at    int // the byte behind what was gone through
	line  int
	first int // the first byte of the line
	told  []api.Token
}

// Cut tells the tokens of a text, or the first place where there is none.
func Cut(text string) ([]api.Token, api.Fault) {
	if len(text) > api.MaxText {
		return nil, api.Fault{Code: api.ErrLimit, Line: 1, Col: 1}
	}
	c := cutter{text: text, line: 1}
	n, ok := 0, false

between:
	c.begin = c.at
	switch {
	case c.ended():
		return c.told, api.Fault{}
	case isBlank(text[c.at]):
		goto blank
	case text[c.at] == '#':
		goto remark
	case isLetter(text[c.at]):
		goto name
	case isDigit(text[c.at]):
		goto number
	case isSign(text[c.at]):
		goto sign
	}
	goto wrong

blank:
	c.passBlank()
	goto between

remark:
	c.passRemark()
	goto between

name:
	c.passName()
	if c.at-c.begin > api.MaxName {
		goto wrong
	}
	c.tell(named(c.piece()))
	goto between

number:
	c.passDigits()
	if n, ok = numbered(c.piece()); !ok {
		goto wrong
	}
	c.tell(api.Token{Kind: api.TNumber, N: n})
	if !c.ended() && isLetter(text[c.at]) {
		c.begin = c.at
		goto wrong
	}
	goto between

sign:
	c.at++
	c.tell(api.Token{Kind: api.TSign, Text: c.piece()})
	goto between

wrong:
	return nil, api.Fault{Code: api.ErrLex, Line: c.line, Col: c.col()}
}

func (c *cutter) ended() bool {
	return c.at == len(c.text)
}

// passBlank passes over one, with which a line may end.
func (c *cutter) passBlank() {
	c.at++
	if c.text[c.begin] == '\n' {
		c.line++
		c.first = c.at
	}
}

// passRemark leaves the end of the line to be passed over as a blank.
func (c *cutter) passRemark() {
	for !c.ended() && c.text[c.at] != '\n' {
		c.at++
	}
}

func (c *cutter) passName() {
	for !c.ended() && inName(c.text[c.at], false) {
		c.at++
	}
}

func (c *cutter) passDigits() {
	for !c.ended() && isDigit(c.text[c.at]) {
		c.at++
	}
}

// piece is the text of what was cut.
func (c *cutter) piece() string {
	return c.text[c.begin:c.at]
}

// col is the column where what is being cut begins.
func (c *cutter) col() int {
	return c.begin - c.first + 1
}

func (c *cutter) tell(t api.Token) {
	t.Line, t.Col = c.line, c.col()
	c.told = append(c.told, t)
}

func isBlank(b byte) bool {
	return b == ' ' || b == '\t' || b == '\n'
}

// named is the token of letters and digits: a name, unless they are a word.
func named(text string) api.Token {
	if isWord(text) {
		return api.Token{Kind: api.TWord, Text: text}
	}
	return api.Token{Kind: api.TName, Text: text}
}

// numbered is what digits tell, if they are a number's one form.
func numbered(digits string) (int, bool) {
	if len(digits) > 1 && digits[0] == '0' {
		return 0, false
	}
	n, err := strconv.Atoi(digits)
	return n, err == nil && n <= api.MaxNumber
}
