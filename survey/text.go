package survey

import (
	"strconv"
	"strings"

	"recoup/api"
	"recoup/subset"
)

// Text is a report in lines.
func Text(r api.Report) string {
	var made strings.Builder
	tell := func(parts ...string) {
		made.WriteString(strings.Join(parts, " "))
		made.WriteByte('\n')
	}
	tell("looked", strconv.Itoa(r.Looked))
	tell("tolerance", strconv.Itoa(r.Tolerance))
	for _, lost := range r.Fatal {
		parts := []string{"fatal"}
		for _, block := range subset.List(lost) {
			parts = append(parts, strconv.Itoa(block))
		}
		tell(parts...)
	}
	for d := range max(len(r.Domains), len(r.Aisles)) {
		tell("domain", strconv.Itoa(d), yesOrNo(r.Domains, d), yesOrNo(r.Aisles, d))
	}
	return made.String()
}

// yesOrNo is what a list says of the domain d: no, if it is too short to say.
func yesOrNo(list []bool, d int) string {
	words, said := [2]string{"no", "yes"}, 0
	if d < len(list) && list[d] {
		said = 1
	}
	return words[said]
}
