package tests

import (
	"math"
	"math/rand"
	"slices"
	"strings"
	"testing"

	"loop.example/g00991/impl"
)

// museum is one at its first day.
func museum(h impl.House, places []int, guards []int) impl.Museum {
	return impl.Museum{House: h, First: places, Places: places, Guards: guards}
}

// gallery is a museum around a yard, with two objects in the hall 0 and guards in the halls 0, 0 and 3.
func gallery() impl.Museum {
	return museum(yard(), []int{0, 0}, []int{0, 0, 3})
}

// busy is the gallery after n moves of the object 0 from the hall 0 to the hall 1 and back, all of them at the day 5.
func busy(n int) impl.Museum {
	m := gallery()
	m.Day, m.Places = 5, []int{n % 2, 0}
	for seal := 1; len(m.Record) < n; {
		text := []string{"move 0 1 0 1", "move 0 0 0 1"}[len(m.Record)%2]
		seal = sealBy(seal, 5, text)
		m.Record = append(m.Record, impl.Entry{Moment: 5, Text: text, Seal: seal})
	}
	return m
}

// storied is the gallery with a record of these texts, and these places.
func storied(places []int, texts ...string) impl.Museum {
	m := gallery()
	m.Day, m.Places, m.Record = len(texts), places, sealed(texts...)
	return m
}

// changed returns the museum after a change of a copy.
func changed(m impl.Museum, change func(m *impl.Museum)) impl.Museum {
	m.House.Doors, m.Record = slices.Clone(m.House.Doors), slices.Clone(m.Record)
	m.First, m.Places, m.Guards = slices.Clone(m.First), slices.Clone(m.Places), slices.Clone(m.Guards)
	change(&m)
	return m
}

func areSame(m impl.Museum, other impl.Museum) bool {
	isSameHouse := m.House.Halls == other.House.Halls && slices.Equal(m.House.Doors, other.House.Doors)
	isSameThere := slices.Equal(m.First, other.First) && slices.Equal(m.Places, other.Places) && slices.Equal(m.Guards, other.Guards)
	return isSameHouse && isSameThere && m.Day == other.Day && slices.Equal(m.Record, other.Record)
}

func isMuseum(m impl.Museum) bool {
	if !arePlaces(m.House, m.First) || !arePlaces(m.House, m.Places) || len(m.First) != len(m.Places) {
		return false
	}
	for _, e := range m.Record {
		if max(e.Moment, m.Day) != m.Day {
			return false
		}
	}
	return len(m.Guards) <= 6 && areHalls(m.House, m.Guards) && m.Day == min(max(m.Day, 0), 1000000) && len(m.Record) <= 30 && brokenBy(m.Record) == -1
}

func walkedBy(m impl.Museum, guard int, hall int) (impl.Museum, bool) {
	for k, from := range m.Guards {
		if isMuseum(m) && k == guard && isDoor(m.House, from, hall) {
			return changed(m, func(m *impl.Museum) { m.Guards[k] = hall }), true
		}
	}
	return m, false
}

func movedAtNight(m impl.Museum, x impl.Move) (impl.Museum, bool) {
	if !isMuseum(m) || !isMove(m.House, m.Places, m.Guards, x) || len(m.Record) == 30 {
		return m, false
	}
	return changed(m, func(m *impl.Museum) {
		seal, text := 1, impl.MoveText(x)
		for _, e := range m.Record {
			seal = e.Seal
		}
		m.Places[x.Object] = x.To
		m.Record = append(m.Record, impl.Entry{Moment: m.Day, Text: text, Seal: sealBy(seal, m.Day, text)})
	}), true
}

func daysLater(m impl.Museum, days int) (impl.Museum, bool) {
	if !isMuseum(m) || days != min(max(days, 1), 1000) || m.Day+days > 1000000 {
		return m, false
	}
	m.Day += days
	return m, true
}

// fraudBy follows the texts of the record; it returns -1 where nothing is wrong.
func fraudBy(m impl.Museum) int {
	isGood, places := isMuseum(m), slices.Clone(m.First)
	for _, e := range m.Record {
		x, ok := impl.ParseMove(e.Text)
		if isGood = isGood && ok && isCarried(m.House, places, x); isGood {
			places[x.Object] = x.To
		}
	}
	if isGood && slices.Equal(places, m.Places) {
		return -1
	}
	if broken := brokenBy(m.Record); broken != -1 {
		return broken
	}
	return len(m.Record)
}

func checkAudit(t *testing.T, name string, m impl.Museum) {
	t.Helper()
	if got := impl.MuseumOk(m); got != isMuseum(m) {
		t.Fatalf("%s: MuseumOk(%v) = %v", name, m, got)
	}
	if got := impl.AuditMuseum(m); got != (fraudBy(m) == -1) {
		t.Fatalf("%s: AuditMuseum(%v) = %v", name, m, got)
	}
	if got := impl.FirstFraud(m); got != fraudBy(m) {
		t.Fatalf("%s: FirstFraud(%v) = %d; want %d", name, m, got, fraudBy(m))
	}
}

func checkWalk(t *testing.T, name string, m impl.Museum, guard int, hall int) (impl.Museum, bool) {
	t.Helper()
	want, is := walkedBy(m, guard, hall)
	got, ok := impl.GuardWalk(m, guard, hall)
	if ok != is || !areSame(got, want) {
		t.Fatalf("%s: GuardWalk(%v, %d, %d) = %v, %v; want %v, %v", name, m, guard, hall, got, ok, want, is)
	}
	return got, ok
}

func checkNight(t *testing.T, name string, m impl.Museum, x impl.Move) (impl.Museum, bool) {
	t.Helper()
	want, is := movedAtNight(m, x)
	got, ok := impl.NightMove(m, x)
	if ok != is || !areSame(got, want) {
		t.Fatalf("%s: NightMove(%v, %v) = %v, %v; want %v, %v", name, m, x, got, ok, want, is)
	}
	return got, ok
}

func checkDays(t *testing.T, name string, m impl.Museum, days int) (impl.Museum, bool) {
	t.Helper()
	want, is := daysLater(m, days)
	got, ok := impl.NextDays(m, days)
	if ok != is || !areSame(got, want) {
		t.Fatalf("%s: NextDays(%v, %d) = %v, %v; want %v, %v", name, m, days, got, ok, want, is)
	}
	return got, ok
}

// goodMuseums are valid; what the record tells is where the objects are.
func goodMuseums() map[string]impl.Museum {
	six := []int{0, 1, 2, 3, 3, 0}
	return map[string]impl.Museum{
		"a gallery":                gallery(),
		"no objects and no guards": museum(house(1), nil, nil),
		"no objects":               museum(yard(), nil, []int{0, 0}),
		"no guards":                museum(yard(), []int{0, 3}, nil),
		"6 objects and 6 guards":   museum(yard(), six, six),
		"7 halls":                  museum(corridor(), []int{6}, []int{6, 5}),
		"the last day":             changed(gallery(), func(m *impl.Museum) { m.Day = 1000000 }),
		"the day before the last":  changed(gallery(), func(m *impl.Museum) { m.Day = 999999 }),
		"one entry":                busy(1),
		"29 entries":               busy(29),
		"30 entries":               busy(30),
		"an entry at the last day": changed(gallery(), func(m *impl.Museum) {
			m.Day, m.Places, m.Record = 1000000, []int{1, 0}, sealedTimes(1, 1000000, "move 0 1 0 1")
		}),
		"an entry of the first day":   changed(busy(0), func(m *impl.Museum) { m.Places, m.Record = []int{1, 0}, sealedTimes(1, 0, "move 0 1 0 1") }),
		"two objects were moved":      storied([]int{3, 2}, "move 0 1 0 1", "move 1 2 0 1", "move 0 3 2 0"),
		"it may have begun elsewhere": changed(busy(1), func(m *impl.Museum) { m.First[0] = 3 }),
		"other guards are named":      storied([]int{1, 0}, "move 0 1 20 20"),
	}
}

// tamperedMuseums are valid, but the record does not tell where the objects are.
func tamperedMuseums() map[string]impl.Museum {
	return map[string]impl.Museum{
		"an object elsewhere":                                    changed(busy(1), func(m *impl.Museum) { m.Places[0] = 2 }),
		"the other object elsewhere":                             changed(busy(1), func(m *impl.Museum) { m.Places[1] = 3 }),
		"an object elsewhere, no entries":                        changed(gallery(), func(m *impl.Museum) { m.Places[0] = 1 }),
		"it began elsewhere":                                     changed(busy(1), func(m *impl.Museum) { m.First[0] = 2 }),
		"an object that was not moved":                           changed(busy(1), func(m *impl.Museum) { m.Places[0] = 0 }),
		"the objects are exchanged":                              changed(busy(1), func(m *impl.Museum) { m.Places = []int{0, 1} }),
		"a text that is no move":                                 storied([]int{0, 0}, "walk 0 1"),
		"the empty text":                                         storied([]int{0, 0}, ""),
		"a text that is no move behind a move":                   storied([]int{1, 0}, "move 0 1 0 1", "move 0 1 0 1 "),
		"a text that is no move before a move":                   storied([]int{1, 0}, "mov", "move 0 1 0 1"),
		"a text that is no move, and the object 0 in the hall 0": changed(storied([]int{0, 0}, "open"), func(m *impl.Museum) { m.First = []int{1, 0} }),
		"a text that is no move, later":                          changed(storied([]int{0, 0}, "move 0 1 0 1", "move 0 0"), func(m *impl.Museum) { m.First = []int{3, 0} }),
		"a move that leads elsewhere":                            storied([]int{1, 0}, "move 0 2 0 1"),
		"a move through no door":                                 storied([]int{3, 0}, "move 0 3 0 1"),
		"a move to no hall":                                      storied([]int{0, 0}, "move 0 7 0 1"),
		"a move of no object":                                    storied([]int{0, 0}, "move 2 1 0 1"),
		"a move through no door, later":                          storied([]int{2, 0}, "move 0 1 0 1", "move 0 2 0 1"),
		"a move through no door, then back":                      storied([]int{1, 0}, "move 0 3 0 1", "move 0 1 0 1"),
		"an entry less":                                          changed(busy(30), func(m *impl.Museum) { m.Record = m.Record[:29] }),
		"no entries any more":                                    changed(busy(1), func(m *impl.Museum) { m.Record = nil }),
		"another house":                                          changed(busy(1), func(m *impl.Museum) { m.House = house(4, 0, 2, 1, 3, 2, 3) }),
	}
}

// brokenMuseums are not valid.
func brokenMuseums() map[string]impl.Museum {
	seven := []int{0, 0, 0, 0, 0, 0, 0}
	bad := map[string]impl.Museum{
		"nothing at all":                    {},
		"7 objects":                         museum(yard(), seven, nil),
		"7 places":                          changed(gallery(), func(m *impl.Museum) { m.Places = seven }),
		"7 guards":                          museum(yard(), []int{0}, seven),
		"a place more":                      changed(gallery(), func(m *impl.Museum) { m.Places = []int{0, 0, 0} }),
		"a place less":                      changed(gallery(), func(m *impl.Museum) { m.Places = []int{0} }),
		"no places":                         changed(gallery(), func(m *impl.Museum) { m.Places = nil }),
		"no first places":                   changed(gallery(), func(m *impl.Museum) { m.First = nil }),
		"a day below 0":                     changed(gallery(), func(m *impl.Museum) { m.Day = -1 }),
		"a day beyond the last":             changed(gallery(), func(m *impl.Museum) { m.Day = 1000001 }),
		"31 entries":                        busy(31),
		"an entry later than the day":       changed(busy(1), func(m *impl.Museum) { m.Day = 4 }),
		"the last entry later than the day": changed(storied([]int{1, 0}, "move 0 1 0 1", "move 0 3 0 1", "move 0 1 0 1"), func(m *impl.Museum) { m.Day = 1 }),
		"an entry later than the last day":  changed(gallery(), func(m *impl.Museum) { m.Day, m.Record = 1000000, []impl.Entry{{Moment: 1000001, Text: "move 0 1 0 1"}} }),
		"another moment":                    changed(busy(3), func(m *impl.Museum) { m.Record[1].Moment = 4 }),
		"another text":                      changed(busy(3), func(m *impl.Museum) { m.Record[1].Text = "move 0 0 1 0" }),
		"another seal":                      changed(busy(3), func(m *impl.Museum) { m.Record[1].Seal++ }),
		"another seal at the end":           changed(busy(3), func(m *impl.Museum) { m.Record[2].Seal-- }),
		"another text at the beginning":     changed(busy(30), func(m *impl.Museum) { m.Record[0].Text = "move 0 2 0 1" }),
		"the first entry is missing":        changed(busy(3), func(m *impl.Museum) { m.Record = m.Record[1:] }),
		"a broken record of 31 entries":     changed(busy(31), func(m *impl.Museum) { m.Record[30].Seal = 0 }),
		"an entry that is all 0":            changed(gallery(), func(m *impl.Museum) { m.Record = []impl.Entry{{}} }),
		"a text that is too long":           changed(gallery(), func(m *impl.Museum) { m.Record = []impl.Entry{{Text: strings.Repeat("a", 201), Seal: -1}} }),
	}
	for _, n := range outside(0, 3) {
		for name, list := range map[string]func(m *impl.Museum) []int{
			"first": func(m *impl.Museum) []int { return m.First }, "places": func(m *impl.Museum) []int { return m.Places }, "guards": func(m *impl.Museum) []int { return m.Guards },
		} {
			bad["among the "+name+": "+impl.FormatInt(n)] = changed(gallery(), func(m *impl.Museum) { list(m)[0] = n })
			bad["at the end of the "+name+": "+impl.FormatInt(n)] = changed(gallery(), func(m *impl.Museum) { list(m)[len(list(m))-1] = n })
		}
	}
	for _, n := range outside(0, 1000000) {
		bad["the day "+impl.FormatInt(n)] = changed(gallery(), func(m *impl.Museum) { m.Day = n })
		bad["a moment "+impl.FormatInt(n)] = changed(busy(3), func(m *impl.Museum) { m.Record[2].Moment = n })
	}
	for name, h := range badHouses() {
		bad[name] = museum(h, []int{0}, []int{0, 0})
		bad[name+", and no objects"] = museum(h, nil, nil)
	}
	return bad
}

func TestMuseumOk(t *testing.T) {
	for name, m := range goodMuseums() {
		checkAudit(t, name, m)
		if !impl.MuseumOk(m) || !impl.AuditMuseum(m) || impl.FirstFraud(m) != -1 {
			t.Errorf("%s: MuseumOk(%v) = false, or FirstFraud = %d", name, m, impl.FirstFraud(m))
		}
	}
	for name, m := range tamperedMuseums() {
		checkAudit(t, name, m)
		if !impl.MuseumOk(m) || impl.AuditMuseum(m) || impl.FirstFraud(m) != len(m.Record) {
			t.Errorf("%s: MuseumOk(%v) = false, or FirstFraud = %d", name, m, impl.FirstFraud(m))
		}
	}
	for name, m := range brokenMuseums() {
		checkAudit(t, name, m)
		if impl.MuseumOk(m) || impl.AuditMuseum(m) || impl.FirstFraud(m) < 0 {
			t.Errorf("%s: MuseumOk(%v) = true, or FirstFraud = %d", name, m, impl.FirstFraud(m))
		}
	}
}

func TestFirstFraud(t *testing.T) {
	for _, c := range []struct {
		name string
		want int
	}{
		{"nothing at all", 0},
		{"7 objects", 0},
		{"31 entries", 31},
		{"an entry later than the day", 1},
		{"the last entry later than the day", 3},
		{"another moment", 1},
		{"another text", 1},
		{"another seal", 1},
		{"another seal at the end", 2},
		{"another text at the beginning", 0},
		{"the first entry is missing", 0},
		{"a broken record of 31 entries", 30},
		{"an entry that is all 0", 0},
	} {
		if got := impl.FirstFraud(brokenMuseums()[c.name]); got != c.want {
			t.Errorf("%s: FirstFraud = %d; want %d", c.name, got, c.want)
		}
	}
}

// Each field of each entry is changed.
func TestAuditEntries(t *testing.T) {
	source := rand.New(rand.NewSource(142))
	for _, n := range []int{1, 2, 7, 30} {
		m := busy(n)
		for k, e := range m.Record {
			for _, other := range spoiledEntries(e, source) {
				spoiled := changed(m, func(m *impl.Museum) { m.Record[k] = other })
				if impl.MuseumOk(spoiled) || impl.AuditMuseum(spoiled) || impl.FirstFraud(spoiled) != k {
					t.Fatalf("FirstFraud(%v) = %d; the entry %d was %v", spoiled, impl.FirstFraud(spoiled), k, e)
				}
			}
		}
	}
}

func TestNewMuseum(t *testing.T) {
	seven := []int{0, 0, 0, 0, 0, 0, 0}
	for _, c := range []struct {
		name           string
		h              impl.House
		places, guards []int
		ok             bool
	}{
		{"a gallery", yard(), []int{0, 0}, []int{0, 0, 3}, true},
		{"no objects and no guards", yard(), nil, nil, true},
		{"no objects and no guards, but memory", yard(), []int{}, []int{}, true},
		{"one hall", house(1), []int{0}, []int{0}, true},
		{"6 objects and 6 guards", castle(), []int{1, 2, 3, 4, 5, 6}, []int{6, 5, 4, 3, 2, 1}, true},
		{"7 objects", yard(), seven, nil, false},
		{"7 guards", yard(), nil, seven, false},
		{"an object in no hall", yard(), []int{0, 4}, nil, false},
		{"an object in a hall below 0", yard(), []int{-1, 0}, nil, false},
		{"a guard in no hall", yard(), []int{0}, []int{0, 4}, false},
		{"a guard in a hall below 0", yard(), []int{0}, []int{-1, 0}, false},
		{"no house", house(0), nil, nil, false},
	} {
		want := impl.Museum{}
		if c.ok {
			want = museum(c.h, c.places, c.guards)
		}
		if got, ok := impl.NewMuseum(c.h, c.places, c.guards); ok != c.ok || !areSame(got, want) {
			t.Errorf("%s: NewMuseum(%v, %v, %v) = %v, %v; want %v, %v", c.name, c.h, c.places, c.guards, got, ok, want, c.ok)
		}
	}
	for name, h := range badHouses() {
		if got, ok := impl.NewMuseum(h, []int{0}, []int{0}); ok || !areSame(got, impl.Museum{}) {
			t.Errorf("%s: NewMuseum(%v) = %v, %v", name, h, got, ok)
		}
	}
	for _, n := range outside(0, 3) {
		for _, list := range [][2][]int{{{n, 0}, {0}}, {{0, n}, {0}}, {{0}, {n, 0}}, {{0}, {0, n}}, {nil, {n}}, {{n}, nil}} {
			if got, ok := impl.NewMuseum(yard(), list[0], list[1]); ok || !areSame(got, impl.Museum{}) {
				t.Errorf("NewMuseum with %v = %v, %v", list, got, ok)
			}
		}
	}
}

func TestGuardWalk(t *testing.T) {
	for _, c := range []struct {
		name        string
		m           impl.Museum
		guard, hall int
		want        bool
	}{
		{"through a door", gallery(), 0, 1, true},
		{"through another door", gallery(), 1, 2, true},
		{"through a door back", gallery(), 2, 1, true},
		{"to the same hall", gallery(), 0, 0, false},
		{"no door between", gallery(), 0, 3, false},
		{"a hall past the end", gallery(), 0, 4, false},
		{"a hall below 0", gallery(), 0, -1, false},
		{"a guard past the end", gallery(), 3, 1, false},
		{"a guard below 0", gallery(), -1, 1, false},
		{"no guards", museum(yard(), []int{0}, nil), 0, 1, false},
		{"one hall", museum(house(1), nil, []int{0}), 0, 0, false},
		{"a full record", busy(30), 2, 2, true},
		{"the last day", changed(gallery(), func(m *impl.Museum) { m.Day = 1000000 }), 0, 1, true},
		{"a museum that was tampered with", tamperedMuseums()["an object elsewhere"], 0, 1, true},
	} {
		if _, ok := checkWalk(t, c.name, c.m, c.guard, c.hall); ok != c.want {
			t.Errorf("%s: GuardWalk is %v", c.name, ok)
		}
	}
}

func TestNightMove(t *testing.T) {
	x := impl.Move{Object: 0, To: 1, First: 0, Second: 1}
	for _, c := range []struct {
		name string
		m    impl.Museum
		x    impl.Move
		want bool
	}{
		{"the first object", gallery(), x, true},
		{"the second object", gallery(), impl.Move{Object: 1, To: 2, First: 1, Second: 0}, true},
		{"the second entry", busy(1), impl.Move{Object: 1, To: 2, First: 1, Second: 0}, true},
		{"a guard elsewhere", gallery(), impl.Move{Object: 0, To: 1, First: 0, Second: 2}, false},
		{"the same guard twice", gallery(), impl.Move{Object: 0, To: 1}, false},
		{"no such guard", gallery(), impl.Move{Object: 0, To: 1, First: 0, Second: 3}, false},
		{"no such object", gallery(), impl.Move{Object: 2, To: 1, First: 0, Second: 1}, false},
		{"no door between", gallery(), impl.Move{Object: 0, To: 3, First: 0, Second: 1}, false},
		{"the last day", changed(gallery(), func(m *impl.Museum) { m.Day = 1000000 }), x, true},
		{"28 entries", busy(28), x, true},
		{"29 entries", busy(29), impl.Move{Object: 0, To: 0, First: 0, Second: 1}, true},
		{"30 entries", busy(30), x, false},
		{"31 entries", busy(31), x, false},
		{"all numbers at their limits", museum(castle(), []int{0, 0, 0, 0, 0, 0}, []int{0, 0, 0, 0, 6, 6}), impl.Move{Object: 5, To: 6, First: 4, Second: 5}, true},
		{"no objects", museum(yard(), nil, []int{0, 0}), x, false},
		{"no guards", museum(yard(), []int{0}, nil), x, false},
		{"a museum that was tampered with", changed(gallery(), func(m *impl.Museum) { m.Places[0] = 1 }), impl.Move{Object: 0, To: 0, First: 0, Second: 1}, true},
		{"a broken record", brokenMuseums()["another seal"], x, false},
	} {
		got, ok := checkNight(t, c.name, c.m, c.x)
		if ok != c.want {
			t.Errorf("%s: NightMove is %v", c.name, ok)
		}
		if ok && (len(got.Record) != len(c.m.Record)+1 || got.Record[len(c.m.Record)].Text != impl.MoveText(c.x) || got.Record[len(c.m.Record)].Moment != c.m.Day) {
			t.Errorf("%s: the record is %v", c.name, got.Record)
		}
	}
}

func TestNextDays(t *testing.T) {
	for _, c := range []struct {
		name      string
		day, days int
		want      int
		ok        bool
	}{
		{"one day", 0, 1, 1, true},
		{"no days", 0, 0, 0, false},
		{"days below 0", 5, -1, 5, false},
		{"1000 days", 5, 1000, 1005, true},
		{"1001 days", 5, 1001, 5, false},
		{"to the last day", 999999, 1, 1000000, true},
		{"beyond the last day", 999999, 2, 999999, false},
		{"from the last day", 1000000, 1, 1000000, false},
		{"no days from the last day", 1000000, 0, 1000000, false},
		{"1000 days to the last day", 999000, 1000, 1000000, true},
		{"1000 days beyond the last day", 999001, 1000, 999001, false},
		{"the greatest number", 5, math.MaxInt, 5, false},
		{"the least number", 5, math.MinInt, 5, false},
		{"a day that is not valid", -1, 5, -1, false},
		{"a day beyond the last one", 1000001, 5, 1000001, false},
	} {
		m := changed(gallery(), func(m *impl.Museum) { m.Day = c.day })
		if got, ok := checkDays(t, c.name, m, c.days); got.Day != c.want || ok != c.ok {
			t.Errorf("%s: NextDays(%v, %d) = %v, %v", c.name, m, c.days, got, ok)
		}
	}
	checkDays(t, "entries", busy(30), 7)
}

func someMuseum(source *rand.Rand, h impl.House) impl.Museum {
	places, guards := make([]int, source.Intn(5)), make([]int, 2+source.Intn(5))
	for k := range places {
		places[k] = source.Intn(h.Halls)
	}
	for k := range guards {
		guards[k] = source.Intn(h.Halls)
	}
	m, _ := impl.NewMuseum(h, places, guards)
	return m
}

// someMove is any move, or one of an object whose guards are there, if there are two of them.
func someMove(source *rand.Rand, m impl.Museum) impl.Move {
	x := impl.Move{Object: source.Intn(len(m.Places)+2) - 1, To: source.Intn(m.House.Halls), First: source.Intn(5), Second: source.Intn(7) - 1}
	if x.Object < 0 || x.Object >= len(m.Places) || source.Intn(4) == 0 {
		return x
	}
	for !isDoor(m.House, m.Places[x.Object], x.To) && m.House.Halls > 1 {
		x.To = source.Intn(m.House.Halls)
	}
	var near []int
	for k, hall := range m.Guards {
		if hall == m.Places[x.Object] || hall == x.To {
			near = append(near, k)
		}
	}
	source.Shuffle(len(near), func(i int, k int) { near[i], near[k] = near[k], near[i] })
	if len(near) > 1 {
		x.First, x.Second = near[0], near[1]
	}
	return x
}

// Promise 38: a museum stays valid, and no object moves unless two guards are there.
func TestMuseumsMany(t *testing.T) {
	source, counts := rand.New(rand.NewSource(143)), map[string]int{}
	for _, h := range append(someHouses(144, 100), goodHouses()...) {
		if !isHouse(h) {
			continue
		}
		m := someMuseum(source, h)
		first := slices.Clone(m.Places)
		for range 200 {
			before, isDone := m, false
			x := someMove(source, m)
			switch source.Intn(8) {
			case 0:
				m, isDone = checkDays(t, "at random", m, source.Intn(6)*source.Intn(300)-1)
			case 1, 2, 3, 4:
				m, isDone = checkWalk(t, "at random", m, source.Intn(8)-1, source.Intn(h.Halls+2)-1)
			default:
				m, isDone = checkNight(t, "at random", m, x)
				if isDone && watchers(before.Guards, x, before.Places[x.Object]) != 2 {
					t.Fatalf("NightMove(%v, %v) without two guards", before, x)
				}
				if isDone {
					counts["moved"]++
				}
			}
			if !isDone && !areSame(before, m) || !isMuseum(m) || !slices.Equal(m.First, first) {
				t.Fatalf("%v is not valid any more; was %v", m, before)
			}
			checkAudit(t, "at random", m)
			if !impl.AuditMuseum(m) {
				t.Fatalf("AuditMuseum(%v) = false", m)
			}
			counts["done"] += map[bool]int{true: 1}[isDone]
		}
		counts["full"] += len(m.Record) / 30
		checkTampered(t, source, m)
	}
	if counts["moved"] < 400 || counts["done"] < 1500 || counts["full"] < 1 {
		t.Errorf("too few objects are moved: %v", counts)
	}
}

// checkTampered changes a place, a first place or an entry of a museum.
func checkTampered(t *testing.T, source *rand.Rand, m impl.Museum) {
	t.Helper()
	for k := range m.Places {
		for hall := range m.House.Halls {
			other := changed(m, func(m *impl.Museum) { m.Places[k] = hall })
			checkAudit(t, "another place", other)
			if impl.AuditMuseum(other) != (hall == m.Places[k]) {
				t.Fatalf("AuditMuseum(%v) = %v; the hall of %d was %d", other, impl.AuditMuseum(other), k, m.Places[k])
			}
			checkAudit(t, "another first place", changed(m, func(m *impl.Museum) { m.First[k] = hall }))
		}
	}
	for k, e := range m.Record {
		text := impl.MoveText(impl.Move{Object: source.Intn(6), To: source.Intn(7), First: source.Intn(6), Second: source.Intn(6)})
		forged := changed(m, func(m *impl.Museum) { m.Record[k].Text = text })
		checkAudit(t, "another text", forged)
		if impl.AuditMuseum(forged) != (text == e.Text) {
			t.Fatalf("AuditMuseum(%v) = %v; the text was %q", forged, impl.AuditMuseum(forged), e.Text)
		}
		// With new seals, the moves alone tell.
		for i := range forged.Record {
			forged.Record[i].Seal = sealBy(impl.LastSeal(forged.Record[:i]), forged.Record[i].Moment, forged.Record[i].Text)
		}
		checkAudit(t, "another text and new seals", forged)
		checkAudit(t, "an entry less", changed(m, func(m *impl.Museum) { m.Record = slices.Delete(m.Record, k, k+1) }))
	}
}

func TestMuseumsInvalid(t *testing.T) {
	x := impl.Move{Object: 0, To: 1, First: 0, Second: 1}
	for name, m := range brokenMuseums() {
		for hall := -1; hall <= 4; hall++ {
			x.To = hall
			_, isWalk := checkWalk(t, name, m, 0, hall)
			_, isMoved := checkNight(t, name, m, x)
			if isWalk || isMoved {
				t.Errorf("%s: GuardWalk = %v, NightMove = %v", name, isWalk, isMoved)
			}
		}
		if _, ok := checkDays(t, name, m, 1); ok {
			t.Errorf("%s: NextDays = true", name)
		}
	}
	for name, m := range goodMuseums() {
		for _, n := range append(outside(0, 6), outside(0, 1000)...) {
			_, isLater := checkDays(t, name, m, n)
			_, isWalk := checkWalk(t, name, m, n, 1)
			_, isThere := checkWalk(t, name, m, 0, n)
			if n >= 7 && n <= 1000 && !isWalk && !isThere {
				continue
			}
			if isLater || isWalk || isThere {
				t.Errorf("%s: NextDays with %d is %v, GuardWalk %v, %v", name, n, isLater, isWalk, isThere)
			}
			for _, bad := range moves(n, 1, 0, 1, 0, n, 0, 1, 0, 1, n, 1, 0, 1, 0, n, n, n, n, n) {
				if _, ok := checkNight(t, name, m, bad); ok {
					t.Errorf("%s: NightMove with %v is true", name, bad)
				}
			}
		}
	}
}

// roomy returns the museum with other elements behind all its lists, and the lists with these.
func roomy(m impl.Museum) (impl.Museum, func() impl.Museum) {
	doors := append(slices.Clone(m.House.Doors), impl.Door{A: 71, B: 72})
	first, places, guards := append(slices.Clone(m.First), 73), append(slices.Clone(m.Places), 74), append(slices.Clone(m.Guards), 75)
	record := append(slices.Clone(m.Record), impl.Entry{Moment: 76, Text: "spare"})
	all := func() impl.Museum {
		return impl.Museum{House: impl.House{Halls: m.House.Halls, Doors: doors}, First: first, Places: places, Guards: guards, Day: m.Day, Record: record}
	}
	m.House.Doors, m.First, m.Places = doors[:len(m.House.Doors)], first[:len(m.First)], places[:len(m.Places)]
	m.Guards, m.Record = guards[:len(m.Guards)], record[:len(m.Record)]
	return m, all
}

// checkMuseumNew writes over each list of a result, one after the other, and what is behind it.
func checkMuseumNew(t *testing.T, name string, call func() impl.Museum) {
	t.Helper()
	want := call()
	for k := range 5 {
		got := call()
		kept := changed(got, func(*impl.Museum) {})
		switch k {
		case 0:
			spoil(got.House.Doors, impl.Door{A: -99})
			got.House.Doors = kept.House.Doors
		case 1:
			spoil(got.First, -99)
			got.First = kept.First
		case 2:
			spoil(got.Places, -99)
			got.Places = kept.Places
		case 3:
			spoil(got.Guards, -99)
			got.Guards = kept.Guards
		case 4:
			spoil(got.Record, impl.Entry{Moment: -99})
			got.Record = kept.Record
		}
		if !areSame(got, want) || !areSame(call(), want) {
			t.Fatalf("%s: the list %d shares memory: %v; want %v", name, k, got, want)
		}
	}
}

func TestMuseumArguments(t *testing.T) {
	list := []impl.Museum{gallery(), busy(1), busy(29), busy(30), busy(31), {}, tamperedMuseums()["an object elsewhere"], brokenMuseums()["another seal"], museum(yard(), nil, nil)}
	for _, original := range list {
		m, all := roomy(original)
		before := changed(all(), func(*impl.Museum) {})
		for _, n := range []int{0, 1, 2, 9} {
			checkMuseumNew(t, "NewMuseum", func() impl.Museum {
				made, _ := impl.NewMuseum(m.House, m.Places, m.Guards)
				return made
			})
			checkMuseumNew(t, "GuardWalk", func() impl.Museum {
				walked, _ := impl.GuardWalk(m, n, 1)
				return walked
			})
			checkMuseumNew(t, "NightMove", func() impl.Museum {
				moved, _ := impl.NightMove(m, impl.Move{Object: n, To: 1, First: 0, Second: 1})
				return moved
			})
			checkMuseumNew(t, "NextDays", func() impl.Museum {
				later, _ := impl.NextDays(m, n)
				return later
			})
		}
		impl.MuseumOk(m)
		impl.AuditMuseum(m)
		impl.FirstFraud(m)
		if !areSame(all(), before) {
			t.Fatalf("a function changes its museum: %v; was %v", all(), before)
		}
	}
}
