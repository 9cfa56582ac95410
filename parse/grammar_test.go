package parse_test

import (
	"strings"

	"recoup/api"
	"recoup/token"
)

// grammar is the chapter's, a rule a line, what may come several times being
// told by a rule that begins with itself.
const grammar = `
description =
description = description item
item = const NAME = sum ;
item = code NAME = shape ;
item = use NAME ;
item = domains sum ;
item = tolerate sum ;
item = place row ;
item = place spread ;
item = place spiral sum ;
item = place list [ sums ] ;
shape = NAME
shape = reed ( sum , sum )
shape = cross ( sum , sum )
shape = local ( sum , sum , sum )
shape = pyramid ( sum , sum , sum )
shape = product ( shape , shape )
shape = join ( shape , shape )
shape = matrix [ rows ]
rows = sums
rows = rows ; sums
sums = sum
sums = sums , sum
sum = term
sum = sum + term
sum = sum - term
term = factor
term = term * factor
term = term / factor
term = term % factor
factor = - factor
factor = NUMBER
factor = NAME
factor = ( sum )
`

// way is a rule, how far it is gone along, and at which token it was begun.
type way struct {
	rule, done, from int
}

// grammarRules are lists of words, the first of which is what the others make.
func grammarRules() [][]string {
	var rules [][]string
	for _, line := range strings.Split(strings.TrimSpace(grammar), "\n") {
		made, of, _ := strings.Cut(line, " =")
		rules = append(rules, append([]string{made}, strings.Fields(of)...))
	}
	return rules
}

// class is what a token is called in the rules.
func class(t api.Token) string {
	switch t.Kind {
	case api.TName:
		return "NAME"
	case api.TNumber:
		return "NUMBER"
	}
	return t.Text
}

// ways are all that there are at some token, each once.
type ways struct {
	list []way
	seen map[way]int
}

func (w *ways) add(x way) {
	if _, there := w.seen[x]; !there {
		w.seen[x] = len(w.list)
		w.list = append(w.list, x)
	}
}

// goOn goes all ways through the grammar at once. It is how many tokens there
// are ways for, and whether some way ends behind the last of them.
func goOn(start string, l []api.Token) (int, bool) {
	rules := grammarRules()
	at := []*ways{{seen: map[way]int{}}}
	begin := func(what string, here int) {
		for i, rule := range rules {
			if rule[0] == what {
				at[here].add(way{rule: i, from: here})
			}
		}
	}
	begin(start, 0)
	for here := 0; ; here++ {
		next := &ways{seen: map[way]int{}}
		whole := false
		// The list grows while it is gone through. A rule of no words ends at
		// once, which those that came later must learn of: none but the first
		// rule is so, and it is the first to be gone along.
		for i := 0; i < len(at[here].list); i++ {
			x := at[here].list[i]
			rule := rules[x.rule]
			if x.done == len(rule)-1 {
				whole = whole || rule[0] == start && x.from == 0
				for _, y := range at[x.from].list {
					if of := rules[y.rule]; y.done < len(of)-1 && of[y.done+1] == rule[0] {
						at[here].add(way{y.rule, y.done + 1, y.from})
					}
				}
				continue
			}
			begin(rule[x.done+1], here)
			if here < len(l) && class(l[here]) == rule[x.done+1] {
				next.add(way{x.rule, x.done + 1, x.from})
			}
		}
		if here == len(l) || len(next.list) == 0 {
			return here, whole && here == len(l)
		}
		at = append(at, next)
	}
}

// misfit is the fault that a text has by the grammar, if it is cut.
func misfit(start, text string) api.Fault {
	l, f := token.Cut(text)
	if f != (api.Fault{}) {
		return f
	}
	count, whole := goOn(start, l)
	switch {
	case whole:
		return api.Fault{}
	case count < len(l):
		return fault(api.ErrSyntax, l[count].Line, l[count].Col)
	}
	line, col := token.Where(text, len(text))
	return fault(api.ErrSyntax, line, col)
}
