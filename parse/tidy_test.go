package parse_test

import (
	"strings"
	"testing"

	"recoup/api"
	"recoup/parse"
)

// P11.3

func TestTidyOfExamples(t *testing.T) {
	tidyIs(t, "const a=1+2;#x", "const a = ( 1 + 2 ) ;\n")
}

func TestTidyOfEachItem(t *testing.T) {
	for _, c := range []struct{ text, want string }{
		{"const a=(((1)))-2-3*-b;", "const a = ( ( 1 - 2 ) - ( 3 * - b ) ) ;\n"},
		{"code x=y;", "code x = y ;\n"},
		{"code x=reed(4,2);", "code x = reed ( 4 , 2 ) ;\n"},
		{"code x=cross(4/2,2);", "code x = cross ( ( 4 / 2 ) , 2 ) ;\n"},
		{"code x=local(4,2,0);", "code x = local ( 4 , 2 , 0 ) ;\n"},
		{"code x=pyramid(4,2,--1);", "code x = pyramid ( 4 , 2 , - - 1 ) ;\n"},
		{"code x=product(y,join(z,w));", "code x = product ( y , join ( z , w ) ) ;\n"},
		{"code x=matrix[1,0;0,1%2];", "code x = matrix [ 1 , 0 ; 0 , ( 1 % 2 ) ] ;\n"},
		{"use x;", "use x ;\n"}, {"domains 3;", "domains 3 ;\n"}, {"tolerate(2);", "tolerate 2 ;\n"},
		{"place row;", "place row ;\n"}, {"place spread;", "place spread ;\n"}, {"place spiral-1;", "place spiral - 1 ;\n"},
		{"place list[0];", "place list [ 0 ] ;\n"}, {"place list[0,1,(2)];", "place list [ 0 , 1 , 2 ] ;\n"},
	} {
		tidyIs(t, c.text, c.want)
		tidyIs(t, c.want, c.want)
		tidyIs(t, "#"+c.text+"\n\n  "+c.text+"use x;"+c.text+"# ;", c.want+"use x ;\n"+c.want)
	}
}

// wide is a description of as many lists of names as may be, the names having
// so many bytes in all; as it is tight, and as it is tidy.
func wide(size int) (text, tidy string) {
	left := api.MaxItems * api.MaxSide
	for range api.MaxItems {
		var names []string
		for range api.MaxSide {
			each := size / left
			names = append(names, strings.Repeat("q", each))
			size, left = size-each, left-1
		}
		text += "place list[" + strings.Join(names, ",") + "];"
		tidy += "place list [ " + strings.Join(names, " , ") + " ] ;\n"
	}
	return text, tidy
}

// A description whose text is just as long as may be, and one byte longer.
func TestTidyOfLongTexts(t *testing.T) {
	_, tidy := wide(api.MaxItems * api.MaxSide)
	room := api.MaxText - len(tidy) + api.MaxItems*api.MaxSide
	text, tidy := wide(room)
	if len(tidy) != api.MaxText || len(text) >= api.MaxText {
		t.Fatalf("the texts have %d and %d bytes", len(text), len(tidy))
	}
	tidyIs(t, text, tidy)
	tidyIs(t, tidy, tidy)
	for more := 1; more <= 3; more++ {
		longer, _ := wide(room + more)
		tidyFails(t, longer, api.ErrLimit, 1, 1)
		tidyFails(t, "\n\n "+longer, api.ErrLimit, 1, 1)
		l, f := parse.Program("\n\n " + longer)
		if len(l) != api.MaxItems || l[0].Line != 3 || l[0].Col != 2 || f != (api.Fault{}) {
			t.Errorf("Program(%s) = %d items, %v", brief(longer), len(l), f)
		}
		// Program's fault is told ahead of that.
		programFails(t, longer+"\n ;", api.ErrSyntax, 2, 2)
		programFails(t, longer+"\n !", api.ErrLex, 2, 2)
		programFails(t, longer+"\n use x;", api.ErrLimit, 2, 2)
	}
}

func TestTidyOfAnyTexts(t *testing.T) {
	for seed := range 2000 {
		from := seeded(seed)
		l := from.items()
		text, _ := written(from, l...)
		tidyIs(t, text, tidyOf(t, l...))
	}
}
