package desk_test

import (
	"fmt"
	"strings"
	"testing"

	"watershed/api"
	. "watershed/desk"
)

func lines(l ...string) string { return strings.Join(l, "\n") }

// tells expects what a script tells.
func tells(t *testing.T, script string, want ...string) {
	t.Helper()
	if got := Run(script); got != strings.Join(append(want, ""), "\n") {
		t.Errorf("%q tells\n%s, not\n%s", script, got, strings.Join(want, "\n"))
	}
}

// has expects a line among those told.
func has(t *testing.T, told string, want ...string) {
	t.Helper()
	for _, line := range want {
		if !strings.Contains("\n"+told, "\n"+line+"\n") {
			t.Errorf("%q is not told:\n%s", line, told)
		}
	}
}

const one = "world 1 0 1 1 1"

func TestExample(t *testing.T) { // example 1
	tells(t, lines(one, "settle 100", "call 1 1 add:k:5", "settle 100", "rows 1 1"),
		"ok", "owned 1 1 - - 1", "turned 1 1",
		"settled 10", "led 1 0 1", "led 1 1 1",
		"ok", "replied 1.1 commit k", "decided 1 4 1.1 commit k",
		"settled 0", "row k=5")
}

func TestEmpty(t *testing.T) { // P32.1
	for _, script := range []string{"", "\n", "\n\n\n"} {
		if got := Run(script); got != "" {
			t.Errorf("%q: %q", script, got)
		}
	}
	tells(t, "\n\nnothing\n\n", "wrong 6 3")
}

func TestLong(t *testing.T) { // P32.1
	tells(t, strings.Repeat("\n", api.MaxScript+1), "wrong 3 0")
	if got := Run(strings.Repeat("\n", api.MaxScript)); got != "" {
		t.Errorf("%q", got)
	}
	tells(t, one+strings.Repeat("\n", api.MaxScript), "wrong 3 0")
}

func TestFirstWords(t *testing.T) { // ErrNone, ErrShape, ErrNil, in this order
	for _, line := range []string{"x", "World 1 0 1 1 1", " call 1 1", " ", "-", "settled 1", "leads\t", "\r"} {
		tells(t, line, "wrong 6 1")
	}
	numbers := []string{"", "x", "-1", "01", "00", "2147483648", "99999999999999999999", "1x", "+1", "1.0"}
	for _, c := range []struct{ first, good string }{
		{"again", "1 1"}, {"compact", "1 1"}, {"deliver", "1 1"}, {"lose", "1 1"}, {"twice", "1 1"}, {"forward", "1 1"}, {"tick", "1 1"}, {"crash", "1 1"}, {"start", "1"}, {"calm", "1"}, {"settle", "1"}, {"state", "1 1"}, {"shares", "1"}, {"rows", "1 1"},
		{"leads", ""}, {"open", ""}, {"fit", ""}, {"call", "1 1"}, {"change", "1 1"}, {"handoff", "1 1 - -"},
	} {
		good := strings.TrimSpace(c.first + " " + c.good)
		tells(t, good, "wrong 1 1")
		tells(t, good+" ", "wrong 4 1")
		more := " 1"
		if c.first == "call" {
			more = " get:k"
		}
		if c.first == "call" || c.first == "change" {
			tells(t, good+more, "wrong 1 1")
		} else {
			tells(t, good+more, "wrong 4 1")
		}
		words := strings.Split(good, " ")
		if len(words) > 1 {
			tells(t, strings.Join(words[:len(words)-1], " "), "wrong 4 1")
			for _, n := range numbers {
				tells(t, strings.Join(append([]string{words[0], n}, words[2:]...), " "), "wrong 4 1")
			}
		}
		has(t, Run(lines(one, good+" ")), "wrong 4 2")
	}
	tells(t, "call 1 2147483647 get:k", "wrong 1 1")
	tells(t, "call 0 1 get:k", "wrong 1 1")
	tells(t, "change 1 1 x", "wrong 4 1")
}

func TestWorldLines(t *testing.T) {
	for _, line := range []string{"world", "world 1", "world 1 0", "world 1 0 1 0", "world 1 0 1 12a", "world 1 0 1 1 ", "world x 0 1 1 1", "world 1 -1 1 1 1", "world 1 0 01 1 1"} {
		tells(t, line, "wrong 4 1")
	}
	for _, line := range []string{"world 1 0 1", "world 1 0 1 1", "world 1 0 1 2 2", "world 0 0 1 1 1", "world 6 0 1 1 1", "world 2 0 1 21 1", "world 1 0 1 1 -", "world 1 0 1 1 1 1 1 1 1", "world 1 0 1 9 9"} {
		tells(t, line, "wrong 2 1")
	}
	tells(t, "world 1 20 1 1 1", "wrong 8 1")
	tells(t, "world 2 0 2 12 - 2 - 1", "ok", "owned 1 2 - - 1", "turned 1 1", "owned 2 2 - - 1", "turned 2 1")
	tells(t, lines(one, "open", "world 9 0 1 1 1", "open", one, "leads"), "ok", "owned 1 1 - - 1", "turned 1 1", "open", "wrong 2 3", "open", "ok", "owned 1 1 - - 1", "turned 1 1", "leads 0 0 0 0 0")
}

func TestActWords(t *testing.T) {
	for _, word := range []string{"", "get", "get:k:", "get:k:1", "put:k", "put:k:v:w", "add:k", "add:k:", "add:k:-", "add:k:x", "add:k:01", "add:k:--1", "add:k:2147483648", "add:k:1:2", "Get:k", "del:k", "k", ":", "get;k"} {
		tells(t, "call 1 1 "+word, "wrong 4 1")
	}
	told := Run(lines(one, "settle 100", "call 1 1", "call 1 1 get:", "call 1 1 put:k:V", "call 1 1 add:k:2147483647", "call 1 1 put:k: add:l:-3 add:m:-0 get:k get:l get:m get:n", "call 1 1 put:k: add:l:-3 add:m:-0 get:k get:l get:n", "rows 1 1"))
	has(t, told, "wrong 2 3", "wrong 2 4", "wrong 2 5", "wrong 2 6", "wrong 2 7", "replied 1.1 commit l m k= l=-3 n", "row k=", "row l=-3", "row m=0")
}

func TestSteps(t *testing.T) {
	told := Run(lines(
		"world 2 0 1 12 12 12", "settle 200", // 1, 2
		"again 1 1", "again 9 1", "call 9 1 get:k", "call 1 3 get:k", // 3 to 6
		"handoff 1 3 - -", "handoff 1 2 b a", "change 1 1 3", "compact 3 1", "compact 1 9", "deliver 5 5", "lose 5 5", "twice 5 5", "forward 5 5", // 7 to 15
		"tick 3 0", "crash 3 0", "start 3", "start 1", "calm 2001", "state 3 0", "shares 3", "rows 3 0", "rows 1 0", "rows 1 9", // 16 to 25
	))
	for i, want := range map[int]int{3: 6, 4: 2, 5: 2, 6: 6, 7: 2, 8: 2, 9: 2, 10: 6, 11: 2, 12: 6, 13: 6, 14: 6, 15: 6, 16: 6, 17: 6, 18: 2, 19: 7, 20: 2, 21: 6, 22: 6, 23: 6, 24: 6, 25: 6} {
		has(t, told, fmt.Sprintf("wrong %d %d", want, i))
	}
	if n := strings.Count(told, "wrong"); n != 23 {
		t.Errorf("%d errors:\n%s", n, told)
	}
	told = Run(lines("world 2 0 1 12 12 12", "settle 200", "calm 3", "deliver 1 2", "forward 1 2", "twice 1 2", "lose 1 2", "tick 1 3", "crash 2 5", "start 2", "compact 1 0", "calm 0", "calm 2000"))
	if n := strings.Count(told, "ok\n"); n != 9 && n != 10 && n != 11 && n != 12 {
		t.Errorf("%d steps:\n%s", n, told)
	}
}

func TestHandoff(t *testing.T) {
	tells(t, lines("world 1 0 1 1 1 1", "settle 99", "call 2 1 put:k:5", "handoff 1 2 m -", "settle 99", "shares 1", "handoff 1 2 b k", "settle 99", "shares 1", "rows 1 1"),
		"ok", "owned 1 1 - - 1", "turned 1 1",
		"settled 10", "led 1 0 1", "led 1 1 1", "led 1 2 1",
		"ok", "replied 2.1 commit", "decided 1 4 2.1 commit",
		"ok",
		"settled 5", "owned 1 1 - m 1", "turned 1 2", "owned 1 2 m - 2",
		"share - m 1 1", "share m - 2 2",
		"ok",
		"settled 5", "owned 1 1 - b 1", "owned 1 1 k m 1", "turned 1 3", "owned 1 2 b k 3", "owned 1 2 m - 2",
		"share - b 1 1", "share b k 2 3", "share k m 1 1", "share m - 2 2",
		"row k=5")
}

func TestChange(t *testing.T) {
	told := Run(lines("world 2 0 1 1 1", "settle 99", "change 1 1", "change 1 1 1", "change 1 1 2", "settle 99", "leads", "state 1 1", "state 2 1", "state 2 9", "change 1 9 1"))
	has(t, told, "wrong 2 3", "wrong 7 4", "leads 1 2 0 0 0", "state 0 0 0 0 0", "wrong 2 11", "led 2 1 2")
	if !strings.Contains(told, "\nstate 2 2 3 2 ") || !strings.Contains(told, "\nsettled ") {
		t.Errorf("%s", told)
	}
}

func TestOpenAndSettle(t *testing.T) {
	told := Run(lines("world 2 0 1 12 12", "call 1 1 get:k", "call 2 2 get:k", "call 1 2 get:k", "open", "settle 3", "settle 200", "open", "again 1 1", "settle 200", "open"))
	has(t, told, "open 1.1 2.1 1.2", "restless 3", "open")
	if strings.Count(told, "replied 1.2 ") != 2 || strings.Count(told, "\nopen\n") != 2 {
		t.Errorf("%s", told)
	}
}

func TestTalesOfAWrongLine(t *testing.T) { // tales that came all the same are told by the next step
	told := Run(lines(one, "settle 99", "crash 1 0", "calm 11", "call 1 1 get:k", "leads", "fit"))
	has(t, told, "led 1 0 2", "replied 1.1 commit k", "fits 1", "intime")
	for size := 300; size < 420; size += 5 {
		script := []string{fmt.Sprintf("world 1 %d 1 1 1", size), "settle 30"}
		for range 30 {
			script = append(script, "call 1 1 add:k:1", "fit")
		}
		told := Run(strings.Join(script, "\n"))
		if strings.Contains(told, "unread") || strings.Contains(told, "unfit") || strings.Contains(told, "late") {
			t.Errorf("size %d:\n%s", size, told)
		}
		if !strings.Contains(told, "wrong 6 ") && !strings.Contains(told, "wrong 8 1") {
			t.Errorf("size %d: the node never halted", size)
		}
	}
}

func TestFit(t *testing.T) {
	tells(t, lines(one, "fit"), "ok", "owned 1 1 - - 1", "turned 1 1", "fits 0", "intime")
	told := Run(lines("world 3 0 1 123 123 123", "settle 200", "call 1 1 add:k:1", "call 2 2 add:k:1 get:m", "call 3 3 add:m:1", "handoff 1 2 l -", "handoff 2 2 l -", "handoff 3 2 l -", "settle 2000", "fit", "open"))
	has(t, told, "intime", "open")
	if !strings.Contains(told, "\nfits ") || strings.Contains(told, "restless") {
		t.Errorf("%s", told)
	}
}

// What a script tells begins with what its beginning tells.
func TestBeginnings(t *testing.T) { // P32.2
	script := lines("world 2 4000 1 12 12 12", "settle 100", "call 1 1 add:k:5", "nothing", "tick 1 3", "handoff 1 2 m -", "calm 9", "", "crash 2 3", "calm 30", "fit", "state 1 1", "rows 1 1", "call 1 1 x", "again 1 2", "settle 100", "open")
	whole := Run(script)
	for i := range script {
		if script[i] != '\n' {
			continue
		}
		for _, cut := range []string{script[:i], script[:i+1]} {
			if told := Run(cut); !strings.HasPrefix(whole, told) {
				t.Errorf("%q tells\n%s", cut, told)
			}
		}
	}
	if again := Run(script); again != whole {
		t.Error("one thing is answered alike each time")
	}
}

func TestWhichWord(t *testing.T) { // which word says what
	told := Run(lines("world 2 0 1 12 12", "call 1 1 get:k", "again 1 1", "again 1 2", "again 2 1"))
	has(t, told, "wrong 7 3", "wrong 6 5")
	if strings.Count(told, "ok") != 3 {
		t.Errorf("%s", told)
	}
	told = Run(lines("world 2 0 1 12 12", "settle 200", "crash 2 1", "rows 2 1", "state 2 1", "shares 2", "rows 1 1", "shares 1", "crash 2 1"))
	has(t, told, "wrong 6 4", "wrong 6 5", "wrong 6 6", "wrong 6 9", "share - - 1 1")
	script := []string{"world 2 0 1 12 12"}
	for range 10 {
		script = append(script, "tick 1 7")
	}
	for range 16 {
		script = append(script, "tick 1 0", "state 1 0")
	}
	told = Run(lines(append(script, "tick 1 0", "state 1 0")...))
	if strings.Count(told, "state 1 1 2 0 0\n") != 16 || strings.Count(told, "state 2 1 2 0 0\n") != 1 {
		t.Errorf("%s", told)
	}
	tells(t, "handoff 1 1  -", "wrong 4 1")
	tells(t, "handoff 1 1 - ", "wrong 4 1")
}
