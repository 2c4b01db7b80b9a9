package desk

import (
	"strings"

	"watershed/api"
	"watershed/world"
)

// wrong is what is told, by a panic, of a line that is none, or whose call has an error.
type wrong struct{ err api.Errno }

func must(ok bool, err api.Errno) {
	if !ok {
		panic(wrong{err})
	}
}

func mustShape(ok bool) { must(ok, api.ErrShape) }

// words is what a line is made of.
type words []string

func (w words) first() string { return w[0] }

// atLeast is the words behind the first one, so many at least.
func (w words) atLeast(n int) []string {
	mustShape(len(w) > n)
	return w[1:]
}

// just is the words behind the first one, so many.
func (w words) just(n int) []string {
	mustShape(len(w) == n+1)
	return w[1:]
}

// numbers is the words behind the first one, so many numbers.
func (w words) numbers(n int) []int {
	var l []int
	for _, word := range w.just(n) {
		l = append(l, isNumber(word))
	}
	return l
}

// line is words, and which line they are.
type line struct {
	words
	number int
}

const mostNumber = 1<<31 - 1

func isNumber(word string) int {
	mustShape(word != "" && (word == "0" || word[0] != '0'))
	n := 0
	for i := range len(word) {
		c := word[i]
		mustShape(c >= '0' && c <= '9')
		n = 10*n + int(c-'0')
		mustShape(n <= mostNumber)
	}
	return n
}

func isRow(word string) []int {
	mustShape(word != "")
	if word == "-" {
		return nil
	}
	var l []int
	for i := range len(word) {
		c := word[i]
		mustShape(c >= '1' && c <= '9')
		l = append(l, int(c-'0'))
	}
	return l
}

func isKey(word string) string {
	mustShape(word != "")
	if word == "-" {
		return ""
	}
	return word
}

func isAct(word string) api.Act {
	l := strings.Split(word, ":")
	switch {
	case l[0] == "get" && len(l) == 2:
		return api.Act{Kind: api.ActGet, Key: l[1]}
	case l[0] == "put" && len(l) == 3:
		return api.Act{Kind: api.ActPut, Key: l[1], Value: l[2]}
	case l[0] == "add" && len(l) == 3:
		digits, below := strings.CutPrefix(l[2], "-")
		n := isNumber(digits)
		if below {
			n = -n
		}
		return api.Act{Kind: api.ActAdd, Key: l[1], Num: n}
	}
	panic(wrong{api.ErrShape})
}

func keyWord(key string) string {
	if key == "" {
		return "-"
	}
	return key
}

func nameWord(n api.Name) string { return number(n.Client) + "." + number(n.Num) }

func verdict(commit bool, reads []api.Read) []string {
	if !commit {
		return []string{"abort"}
	}
	l := []string{"commit"}
	for _, r := range reads {
		if r.Is {
			l = append(l, r.Key+"="+r.Value)
		} else {
			l = append(l, r.Key)
		}
	}
	return l
}

// tales tells the tales that were not told yet.
func (d *desk) tales() {
	l := d.world.History()
	for _, t := range l[d.told:] {
		d.tale(t)
	}
	d.told = len(l)
}

func (d *desk) tale(t world.Tale) {
	switch t.Kind {
	case world.Replied:
		d.put(append([]string{"replied", nameWord(t.Name)}, verdict(t.Commit, t.Reads)...)...)
	case world.Led:
		d.put("led", number(t.Node), number(t.Group), number(t.Term))
	case world.Owned:
		d.put("owned", number(t.Node), number(t.Group), keyWord(t.Stretch.Span.Lo), keyWord(t.Stretch.Span.Hi), number(t.Stretch.Epoch))
	case world.Decided:
		d.put(append([]string{"decided", number(t.Node), number(t.Index), nameWord(t.Name)}, verdict(t.Commit, t.Reads)...)...)
	case world.Turned:
		d.put("turned", number(t.Node), number(t.Shares.Epoch))
	}
}
