package parse

import (
	"recoup/api"
	"recoup/token"
)

// misfit is what a panic has where the tokens do not go on: the first token
// with which they don't.
type misfit api.Token

// reader goes through the tokens of a text. Behind the last one it finds a
// token of no kind, as often as it asks, that stands where the text ends.
type reader struct {
	next  func() api.Token
	ahead api.Token // what is looked at, and not taken yet
}

func newReader(text string, l []api.Token) *reader {
	next := oneByOne(text, l)
	return &reader{next: next, ahead: next()}
}

// oneByOne is a function that tells a token more each time.
func oneByOne(text string, l []api.Token) func() api.Token {
	var end api.Token
	end.Line, end.Col = token.Where(text, len(text))
	told := 0
	return func() api.Token {
		if told == len(l) {
			return end
		}
		told++
		return l[told-1]
	}
}

func (r *reader) take() api.Token {
	t := r.ahead
	r.ahead = r.next()
	return t
}

func (r *reader) ended() bool {
	return r.ahead.Kind == api.NoToken
}

func (r *reader) end() {
	if !r.ended() {
		panic(misfit(r.ahead))
	}
}

// sign takes one. A sign is known by its text, for no other token has that.
func (r *reader) sign(text string) {
	if t := r.take(); t.Text != text {
		panic(misfit(t))
	}
}

// more takes a sign that says that a list goes on, if one is ahead.
func (r *reader) more(sign string) bool {
	if r.ahead.Text != sign {
		return false
	}
	r.take()
	return true
}

func (r *reader) name() string {
	t := r.take()
	if t.Kind != api.TName {
		panic(misfit(t))
	}
	return t.Text
}
