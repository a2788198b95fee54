package tests

import (
	"fmt"
	"math"
	"math/rand"
	"slices"
	"strings"
	"testing"

	"loop.example/g00991/impl"
)

// acts takes Kind, A, B, C and D by turns.
func acts(numbers ...int) []impl.Act {
	var list []impl.Act
	for i := 0; i+4 < len(numbers); i += 5 {
		list = append(list, impl.Act{Kind: numbers[i], A: numbers[i+1], B: numbers[i+2], C: numbers[i+3], D: numbers[i+4]})
	}
	return list
}

// rangesOf are the least and the greatest values of A, B, C and D; for kinds that are not there, no value is in the range.
func rangesOf(kind int) [4][2]int {
	none := [2]int{1, 0}
	switch kind {
	case 1:
		return [4][2]int{{0, 5}, {0, 6}, {}, {}}
	case 2:
		return [4][2]int{{0, 5}, {0, 6}, {0, 5}, {0, 5}}
	case 3:
		return [4][2]int{{1, 1000}, {}, {}, {}}
	case 4:
		return [4][2]int{}
	case 5:
		return [4][2]int{{0, 5}, {}, {}, {}}
	}
	return [4][2]int{none, none, none, none}
}

func isAct(a impl.Act) bool {
	for k, n := range []int{a.A, a.B, a.C, a.D} {
		if limits := rangesOf(a.Kind)[k]; n < limits[0] || n > limits[1] {
			return false
		}
	}
	return true
}

// doneBy takes an act of any kind and a museum of any kind.
func doneBy(m impl.Museum, a impl.Act) (impl.Museum, int) {
	if !isMuseum(m) || !isAct(a) {
		return m, -1
	}
	isDone := false
	switch a.Kind {
	case 1:
		m, isDone = walkedBy(m, a.A, a.B)
	case 2:
		m, isDone = movedAtNight(m, impl.Move{Object: a.A, To: a.B, First: a.C, Second: a.D})
	case 3:
		m, isDone = daysLater(m, a.A)
	case 4:
		isDone = fraudBy(m) == -1
	default:
		return m, append(slices.Clone(m.Places), -1, -1, -1, -1, -1, -1)[a.A]
	}
	return m, map[bool]int{true: 1}[isDone]
}

func performedBy(m impl.Museum, list []impl.Act) (impl.Museum, []int) {
	var numbers []int
	if !isMuseum(m) || len(list) > 40 {
		return m, nil
	}
	for _, a := range list {
		after, n := doneBy(m, a)
		m, numbers = after, append(numbers, n)
	}
	return m, numbers
}

func writtenBy(m impl.Museum) []string {
	if !isMuseum(m) {
		return nil
	}
	inRow := func(word string, list []int) string {
		return strings.Trim(strings.Join(append([]string{word}, strings.Fields(strings.Trim(fmt.Sprint(list), "[]"))...), " "), " ")
	}
	lines := []string{inRow("objects", m.Places), inRow("guards", m.Guards), fmt.Sprintf("day %d", m.Day)}
	for _, e := range m.Record {
		lines = append(lines, fmt.Sprintf("%d %s %d", e.Moment, e.Text, e.Seal))
	}
	return lines
}

func goodActs() []impl.Act {
	return acts(1, 0, 0, 0, 0, 1, 5, 6, 0, 0, 1, 2, 1, 0, 0, 2, 0, 0, 0, 0, 2, 5, 6, 5, 5, 2, 0, 1, 0, 1, 2, 3, 3, 3, 3, 3, 1, 0, 0, 0, 3, 1000, 0, 0, 0, 4, 0, 0, 0, 0, 5, 0, 0, 0, 0, 5, 5, 0, 0, 0)
}

// badActs have one number outside its range, or a kind that is not there.
func badActs() []impl.Act {
	bad := []impl.Act{{}}
	for _, kind := range outside(1, 5) {
		bad = append(bad, acts(kind, 0, 0, 0, 0, kind, 1, 0, 0, 0, kind, 1, 1, 1, 1)...)
	}
	for _, a := range goodActs() {
		for k, limits := range rangesOf(a.Kind) {
			for _, n := range outside(limits[0], limits[1]) {
				if n < limits[0] || n > limits[1] {
					other := a
					*[]*int{&other.A, &other.B, &other.C, &other.D}[k] = n
					bad = append(bad, other)
				}
			}
		}
	}
	return bad
}

func checkAct(t *testing.T, name string, m impl.Museum, a impl.Act) (impl.Museum, int) {
	t.Helper()
	want, number := doneBy(m, a)
	got, n := impl.DoAct(m, a)
	if n != number || !areSame(got, want) {
		t.Fatalf("%s: DoAct(%v, %v) = %v, %d; want %v, %d", name, m, a, got, n, want, number)
	}
	return got, n
}

func checkRun(t *testing.T, name string, m impl.Museum, list []impl.Act) []int {
	t.Helper()
	want, numbers := performedBy(m, list)
	got, again := impl.RunActs(m, list)
	if !slices.Equal(again, numbers) || !areSame(got, want) {
		t.Fatalf("%s: RunActs(%v, %v) = %v, %v; want %v, %v", name, m, list, got, again, want, numbers)
	}
	if is := impl.IsReplay(m, list, numbers); is != (isMuseum(m) && len(list) <= 40) {
		t.Fatalf("%s: IsReplay(%v, %v, %v) = %v", name, m, list, numbers, is)
	}
	if lines := impl.FormatMuseum(got); !slices.Equal(lines, writtenBy(want)) {
		t.Fatalf("%s: FormatMuseum(%v) = %q; want %q", name, got, lines, writtenBy(want))
	}
	return again
}

func TestActKinds(t *testing.T) {
	if impl.AcWalk != 1 || impl.AcMove != 2 || impl.AcDays != 3 || impl.AcAudit != 4 || impl.AcWhere != 5 || impl.MaxActs != 40 {
		t.Error("a number of chapter 39 differs from the document")
	}
}

func TestSampleMuseum(t *testing.T) {
	if got := impl.SampleMuseum(); !areSame(got, gallery()) || !impl.MuseumOk(got) {
		t.Errorf("SampleMuseum() = %v", got)
	}
}

func TestActOk(t *testing.T) {
	for _, a := range goodActs() {
		if !impl.ActOk(a) || !isAct(a) {
			t.Errorf("ActOk(%v) = false", a)
		}
	}
	for _, a := range badActs() {
		if impl.ActOk(a) || isAct(a) {
			t.Errorf("ActOk(%v) = true", a)
		}
	}
	for kind := -1; kind <= 7; kind++ {
		for a := -1; a <= 8; a++ {
			for b := -1; b <= 8; b++ {
				for c := -1; c <= 7; c++ {
					for d := -1; d <= 7; d++ {
						act := impl.Act{Kind: kind, A: a, B: b, C: c, D: d}
						if got := impl.ActOk(act); got != isAct(act) {
							t.Fatalf("ActOk(%v) = %v", act, got)
						}
					}
				}
			}
		}
	}
	for a := -1; a <= 1002; a++ {
		if got := impl.ActOk(impl.Act{Kind: impl.AcDays, A: a}); got != (a >= 1 && a <= 1000) {
			t.Fatalf("ActOk of %d days is %v", a, got)
		}
	}
}

func TestDoAct(t *testing.T) {
	for _, c := range []struct {
		name string
		m    impl.Museum
		a    impl.Act
		want int
	}{
		{"a guard walks", gallery(), acts(impl.AcWalk, 2, 1, 0, 0)[0], 1},
		{"a guard walks through no door", gallery(), acts(impl.AcWalk, 2, 0, 0, 0)[0], 0},
		{"a guard walks to a hall that is not there", gallery(), acts(impl.AcWalk, 2, 6, 0, 0)[0], 0},
		{"a guard who is not there walks", gallery(), acts(impl.AcWalk, 3, 1, 0, 0)[0], 0},
		{"the last guard there can be walks", gallery(), acts(impl.AcWalk, 5, 1, 0, 0)[0], 0},
		{"a guard there cannot be walks", gallery(), acts(impl.AcWalk, 6, 1, 0, 0)[0], -1},
		{"a guard below 0 walks", gallery(), acts(impl.AcWalk, -1, 1, 0, 0)[0], -1},
		{"a hall there cannot be", gallery(), acts(impl.AcWalk, 2, 7, 0, 0)[0], -1},
		{"a walk with a third number", gallery(), acts(impl.AcWalk, 2, 1, 1, 0)[0], -1},
		{"a walk with a fourth number", gallery(), acts(impl.AcWalk, 2, 1, 0, 1)[0], -1},
		{"a move", gallery(), acts(impl.AcMove, 0, 1, 0, 1)[0], 1},
		{"a move of the second object", gallery(), acts(impl.AcMove, 1, 2, 1, 0)[0], 1},
		{"a move by a guard elsewhere", gallery(), acts(impl.AcMove, 0, 1, 0, 2)[0], 0},
		{"a move by one guard", gallery(), acts(impl.AcMove, 0, 1, 0, 0)[0], 0},
		{"a move by a guard who is not there", gallery(), acts(impl.AcMove, 0, 1, 0, 3)[0], 0},
		{"a move of an object that is not there", gallery(), acts(impl.AcMove, 2, 1, 0, 1)[0], 0},
		{"a move of the last object there can be", gallery(), acts(impl.AcMove, 5, 1, 0, 1)[0], 0},
		{"a move of an object there cannot be", gallery(), acts(impl.AcMove, 6, 1, 0, 1)[0], -1},
		{"a move by a guard there cannot be", gallery(), acts(impl.AcMove, 0, 1, 0, 6)[0], -1},
		{"a move in a full record", busy(30), acts(impl.AcMove, 0, 1, 0, 1)[0], 0},
		{"a day", gallery(), acts(impl.AcDays, 1, 0, 0, 0)[0], 1},
		{"1000 days", gallery(), acts(impl.AcDays, 1000, 0, 0, 0)[0], 1},
		{"no days", gallery(), acts(impl.AcDays, 0, 0, 0, 0)[0], -1},
		{"1001 days", gallery(), acts(impl.AcDays, 1001, 0, 0, 0)[0], -1},
		{"days with a second number", gallery(), acts(impl.AcDays, 1, 1, 0, 0)[0], -1},
		{"a day beyond the last one", changed(gallery(), func(m *impl.Museum) { m.Day = 1000000 }), acts(impl.AcDays, 1, 0, 0, 0)[0], 0},
		{"an audit", busy(7), acts(impl.AcAudit, 0, 0, 0, 0)[0], 1},
		{"an audit that finds something", tamperedMuseums()["an object elsewhere"], acts(impl.AcAudit, 0, 0, 0, 0)[0], 0},
		{"an audit with a number", busy(7), acts(impl.AcAudit, 1, 0, 0, 0)[0], -1},
		{"where the first object is", storied([]int{3, 2}, "move 0 1 0 1", "move 1 2 0 1", "move 0 3 2 0"), acts(impl.AcWhere, 0, 0, 0, 0)[0], 3},
		{"where the second object is", storied([]int{3, 2}, "move 0 1 0 1", "move 1 2 0 1", "move 0 3 2 0"), acts(impl.AcWhere, 1, 0, 0, 0)[0], 2},
		{"where an object in the hall 0 is", gallery(), acts(impl.AcWhere, 1, 0, 0, 0)[0], 0},
		{"where an object is that is not there", gallery(), acts(impl.AcWhere, 2, 0, 0, 0)[0], -1},
		{"where the last object there can be is", gallery(), acts(impl.AcWhere, 5, 0, 0, 0)[0], -1},
		{"where an object is there cannot be", gallery(), acts(impl.AcWhere, 6, 0, 0, 0)[0], -1},
		{"where the sixth object is", museum(corridor(), []int{0, 1, 2, 3, 4, 5}, nil), acts(impl.AcWhere, 5, 0, 0, 0)[0], 5},
		{"no objects", museum(yard(), nil, nil), acts(impl.AcWhere, 0, 0, 0, 0)[0], -1},
		{"no guards", museum(yard(), nil, nil), acts(impl.AcWalk, 0, 1, 0, 0)[0], 0},
		{"the kind 0", gallery(), impl.Act{}, -1},
		{"the kind 6", gallery(), impl.Act{Kind: 6}, -1},
		{"a museum that is not valid", brokenMuseums()["another seal"], acts(impl.AcWhere, 0, 0, 0, 0)[0], -1},
		{"a museum that is not valid is audited", brokenMuseums()["another seal"], acts(impl.AcAudit, 0, 0, 0, 0)[0], -1},
		{"a walk in a museum that is not valid", brokenMuseums()["31 entries"], acts(impl.AcWalk, 2, 1, 0, 0)[0], -1},
	} {
		if _, n := checkAct(t, c.name, c.m, c.a); n != c.want {
			t.Errorf("%s: DoAct = %d; want %d", c.name, n, c.want)
		}
	}
}

func TestRunActs(t *testing.T) {
	where, walk, day := acts(impl.AcWhere, 0, 0, 0, 0), acts(impl.AcWalk, 0, 1, 0, 0, impl.AcWalk, 0, 0, 0, 0), acts(impl.AcDays, 1, 0, 0, 0)
	for _, c := range []struct {
		name string
		m    impl.Museum
		list []impl.Act
		want []int
	}{
		{"no acts", gallery(), nil, nil},
		{"no acts, but memory", busy(3), []impl.Act{}, nil},
		{"one act", gallery(), day, []int{1}},
		{"a move and where", gallery(), append(acts(impl.AcMove, 0, 1, 0, 1), where...), []int{1, 1}},
		{"where and a move", gallery(), append(where, acts(impl.AcMove, 0, 1, 0, 1)...), []int{0, 1}},
		{"a guard walks away", gallery(), slices.Concat(walk[:1], acts(impl.AcWalk, 0, 3, 0, 0, impl.AcMove, 0, 1, 0, 1, impl.AcMove, 0, 2, 0, 1, impl.AcAudit, 0, 0, 0, 0)), []int{1, 1, 0, 0, 1}},
		{"an act that is not valid among others", gallery(), slices.Concat(day, []impl.Act{{Kind: 9}}, day, []impl.Act{{}}, walk), []int{1, -1, 1, -1, 1, 1}},
		{"acts of guards who are not there", gallery(), acts(impl.AcWalk, 3, 1, 0, 0, impl.AcMove, 0, 1, 3, 4, impl.AcWalk, 5, 0, 0, 0), []int{0, 0, 0}},
		{"objects that are not there", gallery(), acts(impl.AcMove, 2, 1, 0, 1, impl.AcWhere, 2, 0, 0, 0, impl.AcWhere, 5, 0, 0, 0), []int{0, -1, -1}},
		{"no objects and no guards", museum(house(1), nil, nil), slices.Concat(where, walk, day, acts(impl.AcAudit, 0, 0, 0, 0)), []int{-1, 0, 0, 1, 1}},
		{"the record gets full", busy(29), acts(impl.AcMove, 1, 1, 0, 1, impl.AcMove, 1, 0, 0, 1, impl.AcAudit, 0, 0, 0, 0), []int{1, 0, 1}},
		{"40 acts", gallery(), slices.Repeat(walk, 20), slices.Repeat([]int{1}, 40)},
		{"41 acts", gallery(), append(slices.Repeat(walk, 20), where...), nil},
		{"41 acts that are not valid", gallery(), make([]impl.Act, 41), nil},
		{"40 acts that are not valid", gallery(), make([]impl.Act, 40), slices.Repeat([]int{-1}, 40)},
		{"a museum that is not valid", brokenMuseums()["another seal"], day, nil},
		{"a museum that is not valid, no acts", brokenMuseums()["another seal"], nil, nil},
		{"nothing at all", impl.Museum{}, day, nil},
	} {
		if got := checkRun(t, c.name, c.m, c.list); !slices.Equal(got, c.want) {
			t.Errorf("%s: RunActs(%v, %v) = %v; want %v", c.name, c.m, c.list, got, c.want)
		}
	}
}

func TestFormatMuseum(t *testing.T) {
	for _, c := range []struct {
		name string
		m    impl.Museum
		want []string
	}{
		{"a gallery", gallery(), []string{"objects 0 0", "guards 0 0 3", "day 0"}},
		{"no objects", museum(yard(), nil, []int{2}), []string{"objects", "guards 2", "day 0"}},
		{"no guards", museum(yard(), []int{3, 1, 2}, nil), []string{"objects 3 1 2", "guards", "day 0"}},
		{"no objects and no guards", museum(house(1), nil, nil), []string{"objects", "guards", "day 0"}},
		{"one entry", busy(1), []string{"objects 1 0", "guards 0 0 3", "day 5", "5 move 0 1 0 1 12036"}},
		{"the last day", changed(gallery(), func(m *impl.Museum) { m.Day = 1000000 }), []string{"objects 0 0", "guards 0 0 3", "day 1000000"}},
		{"the empty text", storied([]int{0, 0}, ""), []string{"objects 0 0", "guards 0 0 3", "day 1", "0  1016"}},
		{"a text of any bytes", storied([]int{0, 0}, "\n\xff"), []string{"objects 0 0", "guards 0 0 3", "day 1", "0 \n\xff " + impl.FormatInt(sealBy(1, 0, "\n\xff"))}},
		{"an object that was moved in secret", changed(gallery(), func(m *impl.Museum) { m.Places[1] = 3 }), []string{"objects 0 3", "guards 0 0 3", "day 0"}},
		{"a museum that is not valid", brokenMuseums()["another seal"], nil},
		{"a museum with 31 entries", busy(31), nil},
		{"nothing at all", impl.Museum{}, nil},
	} {
		if got := impl.FormatMuseum(c.m); !slices.Equal(got, c.want) || !slices.Equal(writtenBy(c.m), c.want) {
			t.Errorf("%s: FormatMuseum(%v) = %q; want %q", c.name, c.m, got, c.want)
		}
	}
	if got := impl.FormatMuseum(busy(30)); len(got) != 33 || !slices.Equal(got, writtenBy(busy(30))) {
		t.Errorf("FormatMuseum with 30 entries = %q", got)
	}
}

func TestIsReplay(t *testing.T) {
	list := acts(impl.AcMove, 0, 1, 0, 1, impl.AcWhere, 0, 0, 0, 0, impl.AcWalk, 2, 0, 0, 0)
	for _, c := range []struct {
		name    string
		m       impl.Museum
		list    []impl.Act
		numbers []int
		want    bool
	}{
		{"the numbers", gallery(), list, []int{1, 1, 0}, true},
		{"one number changed", gallery(), list, []int{1, 0, 0}, false},
		{"the last number changed", gallery(), list, []int{1, 1, -1}, false},
		{"one too many", gallery(), list, []int{1, 1, 0, 0}, false},
		{"one too few", gallery(), list, []int{1, 1}, false},
		{"no numbers", gallery(), list, nil, false},
		{"no acts", gallery(), nil, nil, true},
		{"no acts, but memory", gallery(), []impl.Act{}, []int{}, true},
		{"no acts, one number", gallery(), nil, []int{0}, false},
		{"an act that is not valid", gallery(), []impl.Act{{Kind: 6}}, []int{-1}, true},
		{"40 acts", gallery(), make([]impl.Act, 40), slices.Repeat([]int{-1}, 40), true},
		{"41 acts", gallery(), make([]impl.Act, 41), slices.Repeat([]int{-1}, 41), false},
		{"41 acts, no numbers", gallery(), make([]impl.Act, 41), nil, false},
		{"a museum that is not valid", impl.Museum{}, list, []int{-1, -1, -1}, false},
		{"a museum that is not valid, no acts and no numbers", impl.Museum{}, nil, nil, false},
		{"the greatest and the least number", gallery(), list, []int{math.MaxInt, math.MinInt, 0}, false},
	} {
		if got := impl.IsReplay(c.m, c.list, c.numbers); got != c.want {
			t.Errorf("%s: IsReplay(%v, %v, %v) = %v", c.name, c.m, c.list, c.numbers, got)
		}
	}
}

// someActs are valid but for no days; many of them are moves of objects whose guards are there.
func someActs(source *rand.Rand, count int) []impl.Act {
	m := gallery()
	var list []impl.Act
	for range count {
		a := impl.Act{Kind: source.Intn(8), A: source.Intn(3), B: source.Intn(4)}
		switch a.Kind {
		case impl.AcWalk:
		case impl.AcDays:
			a = impl.Act{Kind: impl.AcDays, A: source.Intn(30)}
		case impl.AcAudit:
			a = impl.Act{Kind: impl.AcAudit}
		case impl.AcWhere:
			a = impl.Act{Kind: impl.AcWhere, A: a.A}
		default:
			x := someMove(source, m)
			a = impl.Act{Kind: impl.AcMove, A: max(x.Object, 0), B: x.To, C: x.First, D: max(x.Second, 0)}
		}
		m, _ = doneBy(m, a)
		list = append(list, a)
	}
	return list
}

// Promise 39: in every history, the record tells where every object is.
func TestActsMany(t *testing.T) {
	source, counts, bad := rand.New(rand.NewSource(145)), map[int]int{}, badActs()
	for range 400 {
		list := someActs(source, source.Intn(43))
		for k, a := range list {
			if source.Intn(20) == 0 {
				list[k] = bad[source.Intn(len(bad))]
			} else if !isAct(a) && a.Kind != impl.AcDays {
				t.Fatalf("%v should be valid", a)
			}
		}
		m := impl.SampleMuseum()
		numbers := checkRun(t, "at random", m, list)
		for k := range numbers {
			other := slices.Clone(numbers)
			other[k] += 1 + source.Intn(2)
			if impl.IsReplay(m, list, other) || impl.IsReplay(m, list, numbers[:k]) || impl.IsReplay(m, list, append(other, 0)) {
				t.Fatalf("IsReplay(%v, %v) = true", list, other)
			}
		}
		after, _ := impl.RunActs(m, list)
		if !impl.AuditMuseum(after) || fraudBy(after) != -1 {
			t.Fatalf("AuditMuseum(%v) = false after %v", after, list)
		}
		places := []int{0, 0}
		for _, e := range after.Record {
			var object, to, first, second int
			if _, err := fmt.Sscanf(e.Text, "move %d %d %d %d", &object, &to, &first, &second); err != nil {
				t.Fatalf("the text %q is no move", e.Text)
			}
			places[object] = to
		}
		for object, hall := range places {
			if _, n := checkAct(t, "where", after, impl.Act{Kind: impl.AcWhere, A: object}); n != hall {
				t.Fatalf("the object %d is in the hall %d; the record %v tells %d", object, n, after.Record, hall)
			}
		}
		counts[min(len(after.Record), 4)]++
	}
	for n := 1; n <= 4; n++ {
		if counts[n] < 30 {
			t.Errorf("too few records have %d entries: %v", n, counts)
		}
	}
}

func TestActsInvalid(t *testing.T) {
	for _, a := range badActs() {
		checkAct(t, "an act that is not valid", gallery(), a)
		if _, n := impl.DoAct(busy(3), a); n != -1 {
			t.Errorf("DoAct(%v) = %d", a, n)
		}
	}
	for name, m := range brokenMuseums() {
		for _, a := range goodActs() {
			if _, n := checkAct(t, name, m, a); n != -1 {
				t.Errorf("%s: DoAct(%v) = %d", name, a, n)
			}
		}
		checkRun(t, name, m, goodActs())
		if got := impl.FormatMuseum(m); len(got) != 0 {
			t.Errorf("%s: FormatMuseum(%v) = %q", name, m, got)
		}
		if impl.IsReplay(m, goodActs(), slices.Repeat([]int{-1}, len(goodActs()))) || impl.IsReplay(m, nil, nil) {
			t.Errorf("%s: IsReplay(%v) = true", name, m)
		}
	}
}

func TestActArguments(t *testing.T) {
	all := acts(impl.AcMove, 0, 1, 0, 1, impl.AcWalk, 2, 1, 0, 0, 9, 9, 9, 9, 9, impl.AcDays, 3, 0, 0, 0, impl.AcAudit, 0, 0, 0, 0, impl.AcWhere, 1, 0, 0, 0, 8, 8, 8, 8, 8)
	before, numbers := slices.Clone(all), []int{1, 1, -1, 77}
	for _, original := range []impl.Museum{gallery(), busy(29), busy(30), busy(31), {}, museum(yard(), nil, nil)} {
		m, lists := roomy(original)
		kept := changed(lists(), func(*impl.Museum) {})
		for _, a := range all {
			checkMuseumNew(t, "DoAct", func() impl.Museum {
				after, _ := impl.DoAct(m, a)
				return after
			})
		}
		for _, list := range [][]impl.Act{nil, all[:1], all[:6], slices.Repeat(all, 7)} {
			checkMuseumNew(t, "RunActs", func() impl.Museum {
				after, _ := impl.RunActs(m, list)
				return after
			})
			checkNumbersNew(t, func() []int {
				_, again := impl.RunActs(m, list)
				return again
			})
		}
		first, second := impl.FormatMuseum(m), impl.FormatMuseum(m)
		spoil(first, "x")
		impl.IsReplay(m, all[:3], numbers[:3])
		if !slices.Equal(second, writtenBy(m)) || !areSame(lists(), kept) || !slices.Equal(all, before) || !slices.Equal(numbers, []int{1, 1, -1, 77}) {
			t.Fatalf("a function changes its arguments: %v, %v, %v", lists(), all, numbers)
		}
	}
	checkMuseumNew(t, "SampleMuseum", impl.SampleMuseum)
}
