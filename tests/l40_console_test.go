package tests

import (
	"math"
	"math/rand"
	"regexp"
	"slices"
	"strconv"
	"strings"
	"testing"

	"loop.example/g00991/impl"
)

// actPattern has the words and numbers of acts; the ranges of the numbers are checked by isAct.
var actPattern = regexp.MustCompile(`^ *(?:(walk) +(\d+) +(\d+)|(move) +(\d+) +(\d+) +(\d+) +(\d+)|(days) +(\d+)|(audit)|(where) +(\d+)) *$`)

// parsedBy takes lines of any length and any bytes.
func parsedBy(line string) (impl.Act, bool) {
	parts := actPattern.FindStringSubmatch(line)
	if parts == nil || len(line) > 600 {
		return impl.Act{}, false
	}
	parts = slices.DeleteFunc(parts[1:], func(part string) bool { return part == "" })
	a := impl.Act{Kind: slices.Index([]string{"", "walk", "move", "days", "audit", "where"}, parts[0])}
	for k, part := range parts[1:] {
		n, err := strconv.Atoi(part)
		if err != nil || strconv.Itoa(n) != part {
			return impl.Act{}, false
		}
		*[]*int{&a.A, &a.B, &a.C, &a.D}[k] = n
	}
	if !isAct(a) {
		return impl.Act{}, false
	}
	return a, true
}

func writtenAct(a impl.Act) (string, bool) {
	if !isAct(a) {
		return "", false
	}
	text := []string{"", "walk A B", "move A B C D", "days A", "audit", "where A"}[a.Kind]
	return strings.NewReplacer("A", strconv.Itoa(a.A), "B", strconv.Itoa(a.B), "C", strconv.Itoa(a.C), "D", strconv.Itoa(a.D)).Replace(text), true
}

// isBlank reports whether a line is ignored.
func isBlank(line string) bool {
	return len(line) <= 600 && strings.Trim(line, " ") == ""
}

func scriptBy(text string) ([]string, bool) {
	var list []impl.Act
	for _, line := range strings.Split(text, "\n") {
		if isBlank(line) {
			continue
		}
		a, ok := parsedBy(line)
		if !ok {
			return nil, false
		}
		list = append(list, a)
	}
	if len(text) > 20000 || len(list) > 40 {
		return nil, false
	}
	m, numbers := performedBy(gallery(), list)
	var lines []string
	for _, n := range numbers {
		lines = append(lines, strconv.Itoa(n))
	}
	return append(lines, writtenBy(m)...), true
}

func checkLine(t *testing.T, name string, line string) bool {
	t.Helper()
	want, is := parsedBy(line)
	if got, ok := impl.ParseAct(line); got != want || ok != is {
		t.Fatalf("%s: ParseAct(%q) = %v, %v; want %v, %v", name, line, got, ok, want, is)
	}
	return is
}

func checkScript(t *testing.T, name string, text string) ([]string, bool) {
	t.Helper()
	want, is := scriptBy(text)
	got, ok := impl.RunScript(text)
	if ok != is || !slices.Equal(got, want) {
		t.Fatalf("%s: RunScript(%q) = %q, %v; want %q, %v", name, text, got, ok, want, is)
	}
	return got, ok
}

func TestFormatAct(t *testing.T) {
	for _, c := range []struct {
		a    impl.Act
		want string
		ok   bool
	}{
		{acts(impl.AcWalk, 2, 1, 0, 0)[0], "walk 2 1", true},
		{acts(impl.AcWalk, 0, 0, 0, 0)[0], "walk 0 0", true},
		{acts(impl.AcWalk, 5, 6, 0, 0)[0], "walk 5 6", true},
		{acts(impl.AcMove, 1, 2, 3, 4)[0], "move 1 2 3 4", true},
		{acts(impl.AcMove, 0, 0, 0, 0)[0], "move 0 0 0 0", true},
		{acts(impl.AcDays, 5, 0, 0, 0)[0], "days 5", true},
		{acts(impl.AcDays, 1000, 0, 0, 0)[0], "days 1000", true},
		{acts(impl.AcAudit, 0, 0, 0, 0)[0], "audit", true},
		{acts(impl.AcWhere, 0, 0, 0, 0)[0], "where 0", true},
		{acts(impl.AcWhere, 5, 0, 0, 0)[0], "where 5", true},
		{impl.Act{}, "", false},
		{acts(impl.AcWalk, 2, 1, 1, 0)[0], "", false},
		{acts(impl.AcDays, 0, 0, 0, 0)[0], "", false},
		{acts(impl.AcDays, 1001, 0, 0, 0)[0], "", false},
		{acts(impl.AcAudit, 0, 0, 0, 1)[0], "", false},
		{acts(impl.AcWhere, 6, 0, 0, 0)[0], "", false},
		{acts(6, 0, 0, 0, 0)[0], "", false},
		{acts(math.MaxInt, 0, 0, 0, 0)[0], "", false},
		{acts(math.MinInt, 0, 0, 0, 0)[0], "", false},
	} {
		if got, ok := impl.FormatAct(c.a); got != c.want || ok != c.ok {
			t.Errorf("FormatAct(%v) = %q, %v; want %q, %v", c.a, got, ok, c.want, c.ok)
		}
	}
	for _, a := range append(goodActs(), badActs()...) {
		want, is := writtenAct(a)
		if got, ok := impl.FormatAct(a); got != want || ok != is {
			t.Errorf("FormatAct(%v) = %q, %v; want %q, %v", a, got, ok, want, is)
		}
	}
}

func TestParseAct(t *testing.T) {
	for _, c := range []struct {
		name, line string
		want       impl.Act
		ok         bool
	}{
		{"a walk", "walk 2 1", acts(impl.AcWalk, 2, 1, 0, 0)[0], true},
		{"a move", "move 1 2 3 4", acts(impl.AcMove, 1, 2, 3, 4)[0], true},
		{"days", "days 1000", acts(impl.AcDays, 1000, 0, 0, 0)[0], true},
		{"an audit", "audit", acts(impl.AcAudit, 0, 0, 0, 0)[0], true},
		{"where", "where 5", acts(impl.AcWhere, 5, 0, 0, 0)[0], true},
		{"several spaces", "  move   1 2  3 4   ", acts(impl.AcMove, 1, 2, 3, 4)[0], true},
		{"an audit among spaces", " audit ", acts(impl.AcAudit, 0, 0, 0, 0)[0], true},
		{"600 bytes", "walk 2 1" + strings.Repeat(" ", 592), acts(impl.AcWalk, 2, 1, 0, 0)[0], true},
		{"601 bytes", "walk 2 1" + strings.Repeat(" ", 593), impl.Act{}, false},
		{"an empty line", "", impl.Act{}, false},
		{"a line of spaces", "   ", impl.Act{}, false},
		{"a tab", "walk\t2 1", impl.Act{}, false},
		{"a tab at the end", "walk 2 1\t", impl.Act{}, false},
		{"a newline at the end", "audit\n", impl.Act{}, false},
		{"a carriage return at the end", "audit\r", impl.Act{}, false},
		{"a byte beyond 126", "audit\x7f", impl.Act{}, false},
		{"no valid UTF-8", "\xffaudit", impl.Act{}, false},
		{"a leading zero", "walk 02 1", impl.Act{}, false},
		{"a leading zero at the end", "walk 2 01", impl.Act{}, false},
		{"two zeros", "walk 00 1", impl.Act{}, false},
		{"a leading zero of the fourth number", "move 0 1 0 01", impl.Act{}, false},
		{"a plus", "walk +2 1", impl.Act{}, false},
		{"a minus", "walk -2 1", impl.Act{}, false},
		{"minus 0", "walk 2 -0", impl.Act{}, false},
		{"no number", "walk 2 x", impl.Act{}, false},
		{"too few numbers", "walk 2", impl.Act{}, false},
		{"too few numbers, all 0", "walk 0", impl.Act{}, false},
		{"no numbers", "walk", impl.Act{}, false},
		{"too many numbers", "walk 2 1 3", impl.Act{}, false},
		{"too many numbers, the last one 0", "walk 2 1 0", impl.Act{}, false},
		{"too many numbers of an audit", "audit 0", impl.Act{}, false},
		{"too many numbers of days", "days 5 0", impl.Act{}, false},
		{"too many numbers of where", "where 5 0", impl.Act{}, false},
		{"too few numbers of a move", "move 0 1 0", impl.Act{}, false},
		{"too many numbers of a move", "move 0 1 0 1 0", impl.Act{}, false},
		{"no days", "days 0", impl.Act{}, false},
		{"days without a number", "days", impl.Act{}, false},
		{"1001 days", "days 1001", impl.Act{}, false},
		{"a hall there cannot be", "walk 2 7", impl.Act{}, false},
		{"a guard there cannot be", "move 0 1 0 6", impl.Act{}, false},
		{"a number of many digits", "where 18446744073709551617", impl.Act{}, false},
		{"a number with 32 bits more", "where 4294967297", impl.Act{}, false},
		{"a number beyond MaxUint", "where 1000000001", impl.Act{}, false},
		{"an upper case word", "Walk 2 1", impl.Act{}, false},
		{"a longer word", "walks 2 1", impl.Act{}, false},
		{"a shorter word", "wal 2 1", impl.Act{}, false},
		{"another word", "open 2 1", impl.Act{}, false},
		{"only numbers", "2 1", impl.Act{}, false},
		{"a kind instead of a word", "1 2 1", impl.Act{}, false},
		{"no space", "walk2 1", impl.Act{}, false},
		{"24 fields", "audit" + strings.Repeat(" 0", 23), impl.Act{}, false},
		{"25 fields", "audit" + strings.Repeat(" 0", 24), impl.Act{}, false},
	} {
		if got, ok := impl.ParseAct(c.line); got != c.want || ok != c.ok {
			t.Errorf("%s: ParseAct(%q) = %v, %v; want %v, %v", c.name, c.line, got, ok, c.want, c.ok)
		}
		checkLine(t, c.name, c.line)
	}
}

func TestRunScript(t *testing.T) {
	start := []string{"objects 0 0", "guards 0 0 3", "day 0"}
	forty := strings.Repeat("audit\n", 40)
	long := strings.Repeat(strings.Repeat(" ", 599)+"\n", 33) + strings.Repeat(" ", 200)
	for _, c := range []struct {
		name, text string
		want       []string
		ok         bool
	}{
		{"no line at all", "", start, true},
		{"an empty line", "\n", start, true},
		{"several empty lines", "\n\n\n", start, true},
		{"lines of spaces", "  \n \n   ", start, true},
		{"a line of 600 spaces", strings.Repeat(" ", 600), start, true},
		{"a line of 601 spaces", strings.Repeat(" ", 601), nil, false},
		{"one act without a newline", "where 1", append([]string{"0"}, start...), true},
		{"one act with a newline", "where 1\n", append([]string{"0"}, start...), true},
		{"two acts", "where 1\naudit\n", append([]string{"0", "1"}, start...), true},
		{"empty lines between", "\n\nwhere 1\n\n   \naudit\n\n", append([]string{"0", "1"}, start...), true},
		{"spaces between the fields", "  where    1  \n audit", append([]string{"0", "1"}, start...), true},
		{"an act of an object that is not there", "where 2", append([]string{"-1"}, start...), true},
		{"an act that fails", "walk 0 3", append([]string{"0"}, start...), true},
		{"a move", "days 5\nmove 0 1 0 1\nwhere 0\nwalk 2 1", []string{"1", "1", "1", "1", "objects 1 0", "guards 0 0 1", "day 5", "5 move 0 1 0 1 12036"}, true},
		{"a move without two guards", "move 0 1 0 2\naudit", append([]string{"0", "1"}, start...), true},
		{"a line that is no act", "where 1\nwher 1\n", nil, false},
		{"the first line is no act", "x\nwhere 1\n", nil, false},
		{"the last line is no act", "where 1\naudit 1", nil, false},
		{"an act that is not valid", "where 6", nil, false},
		{"a line that SplitFields refuses", "where 1\n\t\n", nil, false},
		{"a carriage return", "where 1\r\n", nil, false},
		{"an empty line with a carriage return", "where 1\n\r\n", nil, false},
		{"a line with a byte 0", "\x00", nil, false},
		{"no valid UTF-8", "audit\n\xff", nil, false},
		{"another line end", "audit\vaudit", nil, false},
		{"40 acts", forty, append(slices.Repeat([]string{"1"}, 40), start...), true},
		{"40 acts and empty lines", "\n" + forty + "  \n\n", append(slices.Repeat([]string{"1"}, 40), start...), true},
		{"41 acts", forty + "audit", nil, false},
		{"41 acts, the last one not valid", forty + "audit 1", nil, false},
		{"40 acts and one that is not valid", forty + "days 0", nil, false},
		{"20000 bytes", long, start, true},
		{"20001 bytes", long + " ", nil, false},
		{"20000 bytes and an act", long[:19994] + "\naudit", append([]string{"1"}, start...), true},
		{"20001 bytes of empty lines", strings.Repeat("\n", 20001), nil, false},
		{"20000 empty lines", strings.Repeat("\n", 20000), start, true},
	} {
		got, ok := checkScript(t, c.name, c.text)
		if !slices.Equal(got, c.want) || ok != c.ok {
			t.Errorf("%s: RunScript = %q, %v; want %q, %v", c.name, got, ok, c.want, c.ok)
		}
	}
}

func TestScriptText(t *testing.T) {
	for _, c := range []struct {
		name string
		list []impl.Act
		want string
		ok   bool
	}{
		{"no acts", nil, "", true},
		{"no acts, but memory", []impl.Act{}, "", true},
		{"one act", acts(impl.AcWalk, 2, 1, 0, 0), "walk 2 1\n", true},
		{"all kinds", acts(impl.AcWalk, 2, 1, 0, 0, impl.AcMove, 1, 2, 3, 4, impl.AcDays, 7, 0, 0, 0, impl.AcAudit, 0, 0, 0, 0, impl.AcWhere, 1, 0, 0, 0), "walk 2 1\nmove 1 2 3 4\ndays 7\naudit\nwhere 1\n", true},
		{"an act that is not valid", []impl.Act{{}}, "", false},
		{"the last act is not valid", append(goodActs(), acts(impl.AcDays, 0, 0, 0, 0)...), "", false},
		{"the first act is not valid", append(acts(impl.AcDays, 0, 0, 0, 0), goodActs()...), "", false},
		{"40 acts", slices.Repeat(acts(impl.AcAudit, 0, 0, 0, 0), 40), strings.Repeat("audit\n", 40), true},
		{"41 acts", slices.Repeat(acts(impl.AcAudit, 0, 0, 0, 0), 41), "", false},
	} {
		if got, ok := impl.ScriptText(c.list); got != c.want || ok != c.ok {
			t.Errorf("%s: ScriptText(%v) = %q, %v; want %q, %v", c.name, c.list, got, ok, c.want, c.ok)
		}
	}
	for _, bad := range badActs() {
		for k := range 3 {
			list := slices.Insert(acts(impl.AcAudit, 0, 0, 0, 0, impl.AcWhere, 1, 0, 0, 0), k, bad)
			if got, ok := impl.ScriptText(list); got != "" || ok {
				t.Errorf("ScriptText(%v) = %q, %v", list, got, ok)
			}
		}
	}
}

// Promise 40: acts can be parsed from their text, and scripts can be run.
func TestConsoleMany(t *testing.T) {
	for kind := 1; kind <= 5; kind++ {
		for a := range 8 {
			for b := range 8 {
				for c := range 7 {
					for d := range 7 {
						act := impl.Act{Kind: kind, A: a, B: b, C: c, D: d}
						text, ok := impl.FormatAct(act)
						if want, is := writtenAct(act); text != want || ok != is {
							t.Fatalf("FormatAct(%v) = %q, %v; want %q, %v", act, text, ok, want, is)
						}
						if again, isAgain := impl.ParseAct(text); ok && (again != act || !isAgain) {
							t.Fatalf("ParseAct(%q) = %v, %v; want %v", text, again, isAgain, act)
						}
					}
				}
			}
		}
	}
	source := rand.New(rand.NewSource(146))
	for range 300 {
		list := slices.DeleteFunc(someActs(source, source.Intn(44)), func(a impl.Act) bool { return !isAct(a) })
		text, ok := impl.ScriptText(list)
		if len(list) > 40 {
			if ok || text != "" {
				t.Fatalf("ScriptText(%v) = %q, %v", list, text, ok)
			}
			continue
		}
		lines, isRun := checkScript(t, "at random", text)
		after, numbers := performedBy(gallery(), list)
		var want []string
		for _, n := range numbers {
			want = append(want, strconv.Itoa(n))
		}
		if want = append(want, writtenBy(after)...); !ok || !isRun || !slices.Equal(lines, want) {
			t.Fatalf("RunScript(%q) = %q, %v; want %q", text, lines, isRun, want)
		}
		spaced := strings.ReplaceAll(strings.ReplaceAll(text, " ", "  "), "\n", " \n\n ")
		if again, _ := checkScript(t, "with spaces", spaced); !slices.Equal(again, want) {
			t.Fatalf("RunScript(%q) = %q; want %q", spaced, again, want)
		}
	}
}

func TestLinesMany(t *testing.T) {
	source, counts := rand.New(rand.NewSource(147)), map[bool]int{}
	words := []string{"walk", "move", "days", "audit", "where", "walk", "where"}
	for range 20000 {
		fields := []string{words[source.Intn(len(words))]}
		for range source.Intn(6) {
			fields = append(fields, strconv.Itoa(source.Intn(7)))
		}
		line := []byte(strings.Join(fields, strings.Repeat(" ", 1+source.Intn(2))))
		counts[checkLine(t, "at random", string(line))]++
		others := "0123456789 -+walkmovedysuithr\n\t\x00\xff"
		line[source.Intn(len(line))] = others[source.Intn(len(others))]
		counts[checkLine(t, "with another byte", string(line))]++
		if source.Intn(10) == 0 {
			checkScript(t, "with another byte", "audit\n"+string(line)+"\n")
		}
	}
	if counts[true] < 2000 || counts[false] < 2000 {
		t.Errorf("too few lines are acts, or not: %v", counts)
	}
}

func TestConsoleArguments(t *testing.T) {
	all := append(goodActs(), impl.Act{Kind: 77})
	before := slices.Clone(all)
	for n := range len(all) + 1 {
		impl.ScriptText(all[:n])
	}
	if !slices.Equal(all, before) {
		t.Errorf("ScriptText changes its acts: %v", all)
	}
	first, _ := impl.RunScript("where 1\nmove 0 1 0 1")
	second, _ := impl.RunScript("where 1\nmove 0 1 0 1")
	want := slices.Clone(second)
	spoil(first, "x")
	if !slices.Equal(second, want) {
		t.Errorf("two results share memory: %q", second)
	}
}
