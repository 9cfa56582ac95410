package token_test

import (
	"strconv"
	"strings"
	"testing"

	"recoup/api"
)

// P9.2
func TestCutOfExamples(t *testing.T) {
	cutIs(t, "a = reed(4, 2);",
		at(1, 1, name("a")), at(1, 3, sign("=")), at(1, 5, word("reed")), at(1, 9, sign("(")), at(1, 10, number(4)),
		at(1, 11, sign(",")), at(1, 13, number(2)), at(1, 14, sign(")")), at(1, 15, sign(";")))
	cutIs(t, "x # y\n7", at(1, 1, name("x")), at(2, 1, number(7)))
	cutFails(t, "01", api.ErrLex, 1, 1)
	cutFails(t, "2147483648", api.ErrLex, 1, 1)
	cutFails(t, "4x", api.ErrLex, 1, 2)
	cutFails(t, "A", api.ErrLex, 1, 1)
	cutFails(t, "a b!", api.ErrLex, 1, 4)
	cutFails(t, strings.Repeat("q", 17), api.ErrLex, 1, 1)
	cutIs(t, "")
	cutIs(t, "a1b", at(1, 1, name("a1b")))
}

func TestCutOfEachToken(t *testing.T) {
	for _, x := range tokens() {
		text, _ := slowJoin([]api.Token{x})
		cutIs(t, text, at(1, 1, x))
		cutIs(t, " \t"+text+"\t ", at(1, 3, x))
		cutIs(t, "\n\n "+text+"\n", at(3, 2, x))
		cutIs(t, text+"#"+text, at(1, 1, x))
		cutIs(t, "("+text+")", at(1, 1, sign("(")), at(1, 2, x), at(1, 2+len(text), sign(")")))
	}
}

func TestCutOfNames(t *testing.T) {
	for size := 1; size <= 40; size++ {
		for _, text := range []string{strings.Repeat("x", size), "x" + strings.Repeat("9", size-1)} {
			if size > api.MaxName {
				cutFails(t, text, api.ErrLex, 1, 1)
				cutFails(t, "a\n  "+text+";", api.ErrLex, 2, 3)
				continue
			}
			cutIs(t, text, at(1, 1, name(text)))
			cutIs(t, "a\n  "+text+";", at(1, 1, name("a")), at(2, 3, name(text)), at(2, 3+size, sign(";")))
		}
	}
	cutFails(t, strings.Repeat("x", api.MaxText), api.ErrLex, 1, 1)
	// A word that letters or digits go on with is a name, or too long for one.
	cutIs(t, "used usecode use1 us", at(1, 1, name("used")), at(1, 6, name("usecode")), at(1, 14, name("use1")), at(1, 19, name("us")))
	cutFails(t, " tolerateproductsx", api.ErrLex, 1, 2)
}

func TestCutOfNumbers(t *testing.T) {
	for _, n := range []int{0, 1, 9, 10, 99, 100, 2147483, 999999999, 1999999999, 2147483639, 2147483646, 2147483647} {
		text := strconv.Itoa(n)
		cutIs(t, text, at(1, 1, number(n)))
		cutIs(t, "-"+text+"-", at(1, 1, sign("-")), at(1, 2, number(n)), at(1, 2+len(text), sign("-")))
		for _, noughts := range []string{"0", "00", strings.Repeat("0", 40)} {
			cutFails(t, noughts+text, api.ErrLex, 1, 1)
		}
		cutFails(t, text+"x", api.ErrLex, 1, len(text)+1)
		cutFails(t, "\n "+text+"z1;", api.ErrLex, 2, len(text)+2)
		cutFails(t, text+"use", api.ErrLex, 1, len(text)+1)
	}
	for _, text := range []string{"2147483648", "2147483650", "3000000000", "10000000000", "4294967296", "4294967297",
		"9223372036854775807", "9223372036854775808", "18446744073709551616", "18446744073709551617",
		strings.Repeat("9", 500), "1" + strings.Repeat("0", api.MaxText-1)} {
		cutFails(t, text, api.ErrLex, 1, 1)
		if len(text) < 1000 {
			cutFails(t, "a\n\n =  "+text+" ;", api.ErrLex, 3, 5)
			cutFails(t, text+"x", api.ErrLex, 1, 1)
		}
	}
}

func TestCutOfBlanks(t *testing.T) {
	for _, text := range []string{" ", "\t", "\n", " \t\n", "\n\n\n", strings.Repeat(" ", 300)} {
		cutIs(t, text)
		line, col := slowWhere(text, len(text))
		cutIs(t, text+"a"+text, at(line, col, name("a")))
		cutFails(t, text+"!", api.ErrLex, line, col)
	}
	cutIs(t, "a\tb\nc d", at(1, 1, name("a")), at(1, 3, name("b")), at(2, 1, name("c")), at(2, 3, name("d")))
	// No other byte is a blank, and none but 10 ends a line.
	for _, b := range []string{"\r", "\v", "\f", "\x00", "\x1f", "\x7f", "\x85", "\u00a0", "\u2028"} {
		cutFails(t, "a"+b, api.ErrLex, 1, 2)
		cutFails(t, "\n"+b+"\n", api.ErrLex, 2, 1)
		cutIs(t, "#"+b+"a\nb", at(2, 1, name("b")))
	}
}

func TestCutOfRemarks(t *testing.T) {
	for _, text := range []string{"#", "##", "# a", "#\n", "#\n#", "# A! 01 4x # \xff\x00\r", "#" + strings.Repeat("a", 20)} {
		cutIs(t, text)
		cutIs(t, "a"+text, at(1, 1, name("a")))
		cutIs(t, "7"+text+"\nb", at(1, 1, number(7)), at(strings.Count(text, "\n")+2, 1, name("b")))
	}
	cutIs(t, "a#\n#\n\n #b\n c#d", at(1, 1, name("a")), at(5, 2, name("c")))
	cutFails(t, "# a\n!", api.ErrLex, 2, 1)
	cutFails(t, "!# a", api.ErrLex, 1, 1)
}

func TestCutOfTokensThatTouch(t *testing.T) {
	cutIs(t, "a=1;use(b)", at(1, 1, name("a")), at(1, 2, sign("=")), at(1, 3, number(1)), at(1, 4, sign(";")),
		at(1, 5, word("use")), at(1, 8, sign("(")), at(1, 9, name("b")), at(1, 10, sign(")")))
	var all []api.Token
	for i, s := range signList() {
		all = append(all, at(1, i+1, sign(s)))
	}
	cutIs(t, allSigns, all...)
	cutIs(t, "0/0%0", at(1, 1, number(0)), at(1, 2, sign("/")), at(1, 3, number(0)), at(1, 4, sign("%")), at(1, 5, number(0)))
}

func TestCutOfBytesThatBeginNothing(t *testing.T) {
	for b := range 256 {
		text := string([]byte{byte(b)})
		begins := strings.Contains("abcdefghijklmnopqrstuvwxyz0123456789 \t\n#"+allSigns, text)
		for _, ahead := range []string{"", "a", "7", ";", "a ", "\n", "use\n\t", "#\n"} {
			line, col := slowWhere(ahead, len(ahead))
			if !begins {
				cutFails(t, ahead+text, api.ErrLex, line, col)
				cutFails(t, ahead+text+"a", api.ErrLex, line, col)
				cutFails(t, ahead+text+"\n01", api.ErrLex, line, col)
			}
			cutIsAsFound(t, ahead+text)
			cutIsAsFound(t, ahead+text+"1")
		}
		cutIs(t, "#"+strings.ReplaceAll(text, "\n", ""))
	}
}

// Of two faults the first from the left is told, by the byte where it stands.
func TestCutOfTwoFaults(t *testing.T) {
	long := strings.Repeat("n", 17)
	faults := []struct {
		text  string
		ahead int
	}{{"!", 0}, {"A", 0}, {"\x80", 0}, {long, 0}, {"01", 0}, {"00", 0}, {"2147483648", 0}, {"4x", 1}, {"123abc", 3}, {"0a", 1}}
	for _, f := range faults {
		for _, g := range faults {
			for _, between := range []string{" ", "\n", " ; ", " a\n", "#\n"} {
				cutFails(t, f.text+between+g.text, api.ErrLex, 1, 1+f.ahead)
				cutFails(t, "b\n 1 "+f.text+between+g.text, api.ErrLex, 2, 4+f.ahead)
			}
		}
	}
	// The fault of a number stands at its beginning, ahead of a letter behind it.
	cutFails(t, "01x", api.ErrLex, 1, 1)
	cutFails(t, "2147483648x", api.ErrLex, 1, 1)
	cutFails(t, long+"!", api.ErrLex, 1, 1)
	cutFails(t, "4"+long, api.ErrLex, 1, 2)
	cutFails(t, "4A", api.ErrLex, 1, 2)
}

func TestCutOfLongTexts(t *testing.T) {
	cutIs(t, strings.Repeat(" ", api.MaxText))
	cutIs(t, strings.Repeat("\n", api.MaxText-1)+"a", at(api.MaxText, 1, name("a")))
	cutIs(t, strings.Repeat(" ", api.MaxText-1)+"a", at(1, api.MaxText, name("a")))
	cutIs(t, "#"+strings.Repeat("x", api.MaxText-1))
	all := make([]api.Token, api.MaxText)
	for i := range all {
		all[i] = at(1, i+1, sign(";"))
	}
	cutIs(t, strings.Repeat(";", api.MaxText), all...)
	cutFails(t, strings.Repeat("\n", api.MaxText-1)+"!", api.ErrLex, api.MaxText, 1)
	// A text that is too long is told as that alone.
	for _, piece := range []string{" ", "\n", ";", "a", "!", "01 ", "#", "x\n"} {
		text := strings.Repeat(piece, api.MaxText+1)
		cutFails(t, text[:api.MaxText+1], api.ErrLimit, 1, 1)
		cutFails(t, "!"+text[:api.MaxText], api.ErrLimit, 1, 1)
		cutIsAsFound(t, text[:64])
	}
	for _, size := range []int{api.MaxText + 1, api.MaxText + 2, 2 * api.MaxText, 20 * api.MaxText} {
		cutFails(t, strings.Repeat("\n", size), api.ErrLimit, 1, 1)
		cutFails(t, strings.Repeat("?", size), api.ErrLimit, 1, 1)
	}
}

// All short texts of a few bytes.
func TestCutOfShortTexts(t *testing.T) {
	texts := []string{""}
	for range 4 {
		var longer []string
		for _, text := range texts {
			for _, b := range []string{"a", "z", "0", "1", " ", "\n", "#", ";", "Z", "\x80"} {
				longer = append(longer, text+b)
				cutIsAsFound(t, text+b)
			}
		}
		texts = longer
	}
}

func TestCutOfAnyTexts(t *testing.T) {
	good := append(wordList(), "a", "x1", "0", "7", "64", "2147483647", " ", " ", "\n", "\t", "\n\n", "#", "# x\n", "abcdefghijklmnop")
	good = append(good, signList()...)
	bad := append([]string{"!", "A", "00", "2147483648", "4x", "\xff", "é", "\r", "_"}, good...)
	for seed := range 6000 {
		from := seeded(seed)
		cutIsAsFound(t, from.some(good, 12))
		cutIsAsFound(t, from.some(bad, 8))
		parted := strings.Join(strings.Split(from.some(good, 30), ""), one(from, []string{"", " ", "\n"}))
		cutIsAsFound(t, parted)
	}
}
