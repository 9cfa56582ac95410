package token

import (
	"strconv"
	"strings"

	"recoup/api"
)

// Join is a text that is cut into these tokens.
func Join(l ...api.Token) (string, api.Errno) {
	// A token that may not be is told ahead of a text that is too long, even
	// if it stands behind where the text becomes so.
	for _, t := range l {
		if !May(t) {
			return "", api.ErrArg
		}
	}
	var text []byte
	for i, t := range l {
		if i > 0 {
			text = append(text, ' ')
		}
		text = append(text, spelt(t)...)
		if len(text) > api.MaxText {
			return "", api.ErrLimit
		}
	}
	return string(text), api.OK
}

func spelt(t api.Token) string {
	if t.Kind == api.TNumber {
		return strconv.Itoa(t.N)
	}
	return t.Text
}

// Where is the line and the column of the byte with the number at.
func Where(text string, at int) (line, col int) {
	ahead := text[:min(max(at, 0), len(text))]
	// With no line ended ahead, the index is -1: as if one had, right ahead
	// of the text.
	return 1 + strings.Count(ahead, "\n"), len(ahead) - strings.LastIndexByte(ahead, '\n')
}
