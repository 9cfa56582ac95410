package wire_test

import (
	"bytes"
	"testing"

	"recoup/api"
	"recoup/wire"
)

// calls are all of the package that are handed bytes, telling the lists that
// they answer.
func calls() map[string]func(b []byte) [][]byte {
	one := func(f func(b []byte) ([]byte, api.Errno)) func(b []byte) [][]byte {
		return func(b []byte) [][]byte {
			answer, _ := f(b)
			return [][]byte{answer}
		}
	}
	return map[string]func(b []byte) [][]byte{
		"Sum":     func(b []byte) [][]byte { wire.Sum(b); return nil },
		"ReadNum": func(b []byte) [][]byte { wire.ReadNum(b); return nil },
		"Num":     func(b []byte) [][]byte { answer, _ := wire.Num(len(b) * 1000); return [][]byte{answer} },
		"Text":    one(wire.Text),
		"Write":   one(func(b []byte) ([]byte, api.Errno) { return wire.Write(api.Chunk{Tag: 5, Body: b}) }),
		"ReadText": func(b []byte) [][]byte {
			text, _, _ := wire.ReadText(b, api.MaxChunk)
			return [][]byte{text}
		},
		"Read": func(b []byte) [][]byte {
			c, _, _ := wire.Read(b)
			return [][]byte{c.Body}
		},
		"All": func(b []byte) [][]byte {
			l, _, _ := wire.All(b)
			var bodies [][]byte
			for _, c := range l {
				bodies = append(bodies, c.Body)
			}
			return bodies
		},
	}
}

// handedIn are bytes of all kinds: numbers, texts, chunks, with and without
// others behind them, and some that readers refuse.
func handedIn() [][]byte {
	one := slowWrite(api.Chunk{Tag: 1, Body: []byte("some body")})
	none := slowWrite(api.Chunk{Tag: 2})
	great := slowWrite(api.Chunk{Tag: 3, Body: seeded(1).bytes(5000)})
	return [][]byte{
		nil,
		{0},
		{0, 0},
		slowNum(1 << 40),
		slowText([]byte("a text")),
		joined(slowText([]byte("a text")), []byte("and more")),
		slowText(seeded(2).bytes(300)),
		one,
		joined(one, one, none, great, one),
		joined(one, none, none[:3]),
		joined(one, []byte{0xff}),
		one[:len(one)-1],
		append(joined(one)[:len(one)-1], 0),
		{0x80},
		{0x80, 0},
		repeated(0xff, 20),
		seeded(3).bytes(100),
	}
}

// held is a list as it was handed in, to be looked at again later.
type held struct {
	handed, before []byte
}

func hold(handed []byte) held {
	return held{handed, bytes.Clone(handed[:cap(handed)])}
}

func (h held) same() bool {
	return bytes.Equal(h.handed[:cap(h.handed)], h.before)
}

// spoil turns all bits of a list, and of the room behind its end.
func spoil(b []byte) {
	room := b[:cap(b)]
	for i := range room {
		room[i] ^= 0xff
	}
}

func allSame(kept []held) bool {
	for _, one := range kept {
		if !one.same() {
			return false
		}
	}
	return true
}

func holdAllBut(lists [][]byte, left int) []held {
	var kept []held
	for i, one := range lists {
		if i != left {
			kept = append(kept, hold(one))
		}
	}
	return kept
}

// Rule 5: what is handed in stays as it is, also where a call fails.
func TestWhatIsHandedInStays(t *testing.T) {
	for name, call := range calls() {
		for i, b := range handedIn() {
			kept := hold(roomy(b))
			call(kept.handed)
			if !kept.same() {
				t.Errorf("%s of list %d changed what it was handed", name, i)
			}
		}
	}
}

// Rule 5: what is answered is new memory, with its room behind the end; no two
// lists of one answer share any.
func TestAnswersAreNewMemory(t *testing.T) {
	for name, call := range calls() {
		for i, b := range handedIn() {
			kept := hold(roomy(b))
			all := append(call(kept.handed), call(kept.handed)...)
			for k, answer := range all {
				others := holdAllBut(all, k)
				spoil(answer)
				if !kept.same() {
					t.Errorf("%s of list %d shares memory with what it was handed", name, i)
				}
				if !allSame(others) {
					t.Errorf("%s of list %d: two answers share memory", name, i)
				}
			}
			answers := holdAllBut(all, -1)
			spoil(kept.handed)
			if !allSame(answers) {
				t.Errorf("%s of list %d hangs on what becomes of its argument", name, i)
			}
		}
	}
}

// The list of chunks that All answers is new as well.
func TestChunksAreNewMemory(t *testing.T) {
	l, b, _ := forms(1, 5)
	one, _, _ := wire.All(b)
	another, _, _ := wire.All(b)
	clear(one[:cap(one)])
	if !allAlike(another, l) {
		t.Error("two answers of All share their list")
	}
}

// Rule 5: the room behind the end is of no moment, even where it goes on with
// the form.
func TestRoomBehindIsOfNoMoment(t *testing.T) {
	for _, c := range []api.Chunk{{Tag: 1}, {Tag: 0, Body: []byte{0, 0}}, {Tag: 9, Body: seeded(4).bytes(200)}} {
		form := slowWrite(c)
		text := slowText(form)
		number := slowNum(1 << 40)
		for end := range form {
			readIs(t, form[:end], api.Chunk{}, 0, api.ErrShort)
			sumIs(t, form[:end], slowSum(joined(form[:end])))
			if end > 0 {
				allIs(t, form[:end], nil, 0, api.ErrShort)
			}
		}
		for end := range text {
			readTextIs(t, text[:end], api.MaxChunk, nil, 0, api.ErrShort)
		}
		for end := range number {
			readNumIs(t, number[:end], 0, 0, api.ErrShort)
		}
		textIs(t, roomy(c.Body), slowText(c.Body), api.OK)
		writeIs(t, api.Chunk{Tag: c.Tag, Body: roomy(c.Body)}, form, api.OK)
		readIs(t, roomy(form), c, len(form), api.OK)
		allIs(t, roomy(form), []api.Chunk{c}, len(form), api.OK)
	}
}

// Rule 4: a list that is nil is as one without elements.
func TestNilIsAsEmpty(t *testing.T) {
	for _, b := range [][]byte{nil, {}, roomy(nil)} {
		sumIs(t, b, 0)
		readNumIs(t, b, 0, 0, api.ErrShort)
		textIs(t, b, []byte{0}, api.OK)
		readTextIs(t, b, 5, nil, 0, api.ErrShort)
		writeIs(t, api.Chunk{Tag: 4, Body: b}, slowWrite(api.Chunk{Tag: 4}), api.OK)
		readIs(t, b, api.Chunk{}, 0, api.ErrShort)
		allIs(t, b, nil, 0, api.OK)
	}
}
