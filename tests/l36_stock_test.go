package tests

import (
	"math"
	"math/rand"
	"slices"
	"testing"

	"loop.example/g00991/impl"
)

// there and gone are checks of the object 0.
func there(moments ...int) []impl.Check {
	var list []impl.Check
	for _, moment := range moments {
		list = append(list, impl.Check{Moment: moment, There: true})
	}
	return list
}

func gone(moments ...int) []impl.Check {
	var list []impl.Check
	for _, moment := range moments {
		list = append(list, impl.Check{Moment: moment})
	}
	return list
}

// ofObject returns the checks as checks of another object.
func ofObject(object int, list []impl.Check) []impl.Check {
	list = slices.Clone(list)
	for k := range list {
		list[k].Object = object
	}
	return list
}

// stays takes the person, the hall, From and To by turns.
func stays(numbers ...int) []impl.Stay {
	var list []impl.Stay
	for i := 0; i+3 < len(numbers); i += 4 {
		list = append(list, impl.Stay{Person: numbers[i], Hall: numbers[i+1], From: numbers[i+2], To: numbers[i+3]})
	}
	return list
}

// missingBy sorts the checks of an object from the moment 0 on; the program looks for the greatest and the least ones. At one moment, those that are there come last.
func missingBy(list []impl.Check, object int) (seen int, missed int) {
	list = slices.DeleteFunc(slices.Clone(list), func(c impl.Check) bool { return c.Object != object || c.Moment < 0 })
	slices.SortFunc(list, func(a impl.Check, b impl.Check) int {
		if a.Moment != b.Moment {
			return a.Moment - b.Moment
		}
		if a.There {
			return 1
		}
		return -1
	})
	seen, missed = -1, -1
	for k := len(list) - 1; k >= 0 && seen < 0; k-- {
		if list[k].There {
			seen = list[k].Moment
		} else {
			missed = list[k].Moment
		}
	}
	return seen, missed
}

func suspectsBy(list []impl.Stay, hall int, checks []impl.Check, object int) []int {
	seen, missed := missingBy(checks, object)
	set := map[int]bool{}
	for _, s := range list {
		if missed >= 0 && s.Hall == hall && !(s.From > missed) && !(s.To < seen) && !(s.To < 0) {
			set[s.Person] = true
		}
	}
	var persons []int
	for person := range set {
		persons = append(persons, person)
	}
	slices.Sort(persons)
	return persons
}

func checkStock(t *testing.T, name string, list []impl.Check, object int, seen int, missed int) {
	t.Helper()
	if got := impl.LastSeen(list, object); got != seen {
		t.Fatalf("%s: LastSeen(%v, %d) = %d; want %d", name, list, object, got, seen)
	}
	if got := impl.FirstMissed(list, object); got != missed {
		t.Fatalf("%s: FirstMissed(%v, %d) = %d; want %d", name, list, object, got, missed)
	}
	if got := impl.IsMissing(list, object); got != (missed != -1) {
		t.Fatalf("%s: IsMissing(%v, %d) = %v", name, list, object, got)
	}
}

func TestStock(t *testing.T) {
	for _, c := range []struct {
		name         string
		list         []impl.Check
		object       int
		seen, missed int
	}{
		{"no checks", nil, 0, -1, -1},
		{"no checks, but memory", []impl.Check{}, 0, -1, -1},
		{"seen", there(5), 0, 5, -1},
		{"seen at the moment 0", there(0), 0, 0, -1},
		{"never seen, but missed", gone(5), 0, -1, 5},
		{"never seen, but missed at the moment 0", gone(0), 0, -1, 0},
		{"never seen, missed several times", gone(9, 5, 7), 0, -1, 5},
		{"seen and missed", slices.Concat(there(1), gone(5)), 0, 1, 5},
		{"seen and missed one moment later", slices.Concat(there(1), gone(2)), 0, 1, 2},
		{"seen again", slices.Concat(there(1), gone(5), there(9)), 0, 9, -1},
		{"seen again, and missed again", slices.Concat(there(1), gone(5), there(9), gone(12)), 0, 9, 12},
		{"seen again at the moment when it was missed", slices.Concat(there(1), gone(5), there(5)), 0, 5, -1},
		{"missed at the moment when it was seen", slices.Concat(there(5), gone(5)), 0, 5, -1},
		{"missed at the moment when it was seen, and later", slices.Concat(there(5), gone(5, 6)), 0, 5, 6},
		{"not in the order of their moments", slices.Concat(gone(12, 5), there(9, 1), gone(11, 30)), 0, 9, 11},
		{"the first one is not the least one", slices.Concat(there(1), gone(30, 20, 25)), 0, 1, 20},
		{"other objects", slices.Concat(there(1), ofObject(1, gone(5)), ofObject(2, there(9)), gone(7)), 0, 1, 7},
		{"another object is missing", slices.Concat(there(1), ofObject(1, gone(5))), 0, 1, -1},
		{"another object is missing, that one", slices.Concat(there(1), ofObject(1, gone(5))), 1, -1, 5},
		{"an object without checks", slices.Concat(there(1), gone(5)), 7, -1, -1},
		{"an object below 0", ofObject(-3, slices.Concat(there(1), gone(5))), -3, 1, 5},
		{"seen below 0", there(-1), 0, -1, -1},
		{"missed below 0", gone(-1), 0, -1, -1},
		{"missed below 0, and later", gone(-1, 3), 0, -1, 3},
		{"seen below 0, missed below 0", slices.Concat(there(-9), gone(-5)), 0, -1, -1},
		{"seen below 0, missed at 0", slices.Concat(there(-9), gone(0)), 0, -1, 0},
		{"seen below 0 and above", there(-9, 4, -2), 0, 4, -1},
		{"the greatest moment", slices.Concat(there(1), gone(math.MaxInt)), 0, 1, math.MaxInt},
		{"seen at the greatest moment", slices.Concat(there(math.MaxInt), gone(5, math.MaxInt)), 0, math.MaxInt, -1},
		{"the least moment", slices.Concat(there(math.MinInt), gone(math.MinInt)), 0, -1, -1},
		{"the greatest object", ofObject(math.MaxInt, slices.Concat(there(1), gone(5))), math.MaxInt, 1, 5},
		{"the least object", ofObject(math.MinInt, slices.Concat(there(1), gone(5))), math.MinInt, 1, 5},
		{"many checks", slices.Concat(slices.Repeat(there(3), 500), slices.Repeat(gone(9, 2, 8), 500)), 0, 3, 8},
	} {
		if seen, missed := missingBy(c.list, c.object); seen != c.seen || missed != c.missed {
			t.Errorf("%s: should be %d and %d", c.name, seen, missed)
		}
		checkStock(t, c.name, c.list, c.object, c.seen, c.missed)
	}
}

func TestSuspects(t *testing.T) {
	checks := slices.Concat(there(10), gone(20))
	for _, c := range []struct {
		name   string
		stays  []impl.Stay
		hall   int
		checks []impl.Check
		want   []int
	}{
		{"no stays", nil, 0, checks, nil},
		{"no stays, but memory", []impl.Stay{}, 0, checks, nil},
		{"no checks", stays(7, 0, 12, 15), 0, nil, nil},
		{"it is not missing", stays(7, 0, 12, 15), 0, there(10), nil},
		{"within", stays(7, 0, 12, 15), 0, checks, []int{7}},
		{"around", stays(7, 0, 0, 90), 0, checks, []int{7}},
		{"it ends at LastSeen", stays(7, 0, 2, 10), 0, checks, []int{7}},
		{"it ends before LastSeen", stays(7, 0, 2, 9), 0, checks, nil},
		{"it begins at FirstMissed", stays(7, 0, 20, 30), 0, checks, []int{7}},
		{"it begins after FirstMissed", stays(7, 0, 21, 30), 0, checks, nil},
		{"one moment", stays(7, 0, 15, 15), 0, checks, []int{7}},
		{"one moment, at LastSeen", stays(7, 0, 10, 10), 0, checks, []int{7}},
		{"one moment, at FirstMissed", stays(7, 0, 20, 20), 0, checks, []int{7}},
		{"another hall", stays(7, 1, 12, 15, 8, 0, 12, 15), 0, checks, []int{8}},
		{"the other hall", stays(7, 1, 12, 15, 8, 0, 12, 15), 1, checks, []int{7}},
		{"a hall that nobody was in", stays(7, 1, 12, 15), 2, checks, nil},
		{"in ascending order", stays(9, 0, 12, 15, 3, 0, 11, 12, 7, 0, 13, 14), 0, checks, []int{3, 7, 9}},
		{"a person with several stays", stays(9, 0, 12, 13, 3, 0, 11, 12, 9, 0, 15, 17, 9, 1, 15, 17), 0, checks, []int{3, 9}},
		{"a person with several stays, one of them later", stays(9, 0, 12, 13, 9, 0, 25, 27), 0, checks, []int{9}},
		{"From later than To, within", stays(7, 0, 15, 12), 0, checks, []int{7}},
		{"From later than To, both at the limits", stays(7, 0, 20, 10), 0, checks, []int{7}},
		{"From later than To, From beyond", stays(7, 0, 21, 10), 0, checks, nil},
		{"From later than To, To before", stays(7, 0, 20, 9), 0, checks, nil},
		{"never seen", stays(7, 0, 0, 3, 8, 0, -5, 0, 9, 0, -5, -1, 10, 0, 20, 20), 0, gone(20), []int{7, 8, 10}},
		{"seen at the moment 0", stays(7, 0, 0, 3, 8, 0, -5, 0, 9, 0, -5, -1, 10, 0, 20, 20), 0, append(there(0), gone(20)...), []int{7, 8, 10}},
		{"never seen, missed at the moment 0", stays(7, 0, 0, 3, 8, 0, -5, 0, 9, 0, -5, -1, 10, 0, 1, 20), 0, gone(0), []int{7, 8}},
		{"persons below 0", stays(-7, 0, 12, 15, 3, 0, 12, 15, -9, 0, 12, 15), 0, checks, []int{-9, -7, 3}},
		{"a hall below 0", stays(7, -1, 12, 15), -1, checks, []int{7}},
		{"the greatest and the least numbers", stays(math.MaxInt, 0, math.MinInt, math.MaxInt, math.MinInt, 0, 12, math.MaxInt, 1, 0, math.MaxInt, math.MaxInt, 2, 0, math.MinInt, math.MinInt), 0, checks, []int{math.MinInt, math.MaxInt}},
		{"the greatest and the least hall", stays(7, math.MaxInt, 12, 15, 8, math.MinInt, 12, 15), math.MaxInt, checks, []int{7}},
	} {
		if got := impl.Suspects(c.stays, c.hall, c.checks, 0); !slices.Equal(got, c.want) || !slices.Equal(suspectsBy(c.stays, c.hall, c.checks, 0), c.want) {
			t.Errorf("%s: Suspects(%v, %d, %v, 0) = %v; want %v", c.name, c.stays, c.hall, c.checks, got, c.want)
		}
		other := ofObject(6, c.checks)
		if got := impl.Suspects(c.stays, c.hall, other, 6); !slices.Equal(got, c.want) || len(impl.Suspects(c.stays, c.hall, other, 0)) != 0 {
			t.Errorf("%s: Suspects(%v, %d, %v, 6) = %v; want %v", c.name, c.stays, c.hall, other, got, c.want)
		}
	}
}

func TestMissingObjects(t *testing.T) {
	var all []impl.Check
	for object := -2; object < 60; object++ {
		all = append(all, impl.Check{Moment: 3, Object: object, There: object%2 == 0}, impl.Check{Moment: 5, Object: object, There: object%3 == 0})
	}
	missing := func(count int) []int {
		return slices.DeleteFunc(slices.Collect(countTo(max(count, 0))), func(object int) bool { return object%3 == 0 })
	}
	for _, c := range []struct {
		name  string
		list  []impl.Check
		count int
		want  []int
	}{
		{"no checks", nil, 50, nil},
		{"count 0", all, 0, nil},
		{"count 1", all, 1, nil},
		{"count 2", all, 2, []int{1}},
		{"count 6", all, 6, []int{1, 2, 4, 5}},
		{"count 49", all, 49, missing(49)},
		{"count 50", all, 50, missing(50)},
		{"count 51", all, 51, nil},
		{"count -1", all, -1, nil},
		{"the greatest count", all, math.MaxInt, nil},
		{"the least count", all, math.MinInt, nil},
		{"one object", slices.Concat(there(1), gone(5)), 50, []int{0}},
		{"one object below the count", ofObject(7, gone(5)), 8, []int{7}},
		{"one object at the count", ofObject(7, gone(5)), 7, nil},
	} {
		if got := impl.MissingObjects(c.list, c.count); !slices.Equal(got, c.want) {
			t.Errorf("%s: MissingObjects(%v, %d) = %v; want %v", c.name, c.list, c.count, got, c.want)
		}
	}
	for _, n := range outside(0, 50) {
		if got := impl.MissingObjects(all, n); len(got) != 0 {
			t.Errorf("MissingObjects(%d) = %v", n, got)
		}
	}
}

// Promise 36: what is missing was last seen before.
func TestStockMany(t *testing.T) {
	source, counts := rand.New(rand.NewSource(139)), map[string]int{}
	for range 4000 {
		var checks []impl.Check
		var list []impl.Stay
		for range source.Intn(12) {
			checks = append(checks, impl.Check{Moment: source.Intn(12) - 2, Object: source.Intn(5) - 1, There: source.Intn(2) == 0})
		}
		for range source.Intn(8) {
			list = append(list, impl.Stay{Person: source.Intn(7) - 1, Hall: source.Intn(3), From: source.Intn(16) - 4, To: source.Intn(16) - 4})
		}
		var missing []int
		for object := -1; object < 5; object++ {
			seen, missed := missingBy(checks, object)
			checkStock(t, "at random", checks, object, seen, missed)
			if missed >= 0 && seen >= missed {
				t.Fatalf("the object %d of %v is seen at %d, and missed at %d", object, checks, seen, missed)
			}
			if missed >= 0 && object >= 0 && object < 4 {
				missing = append(missing, object)
			}
			for hall := range 3 {
				want := suspectsBy(list, hall, checks, object)
				if got := impl.Suspects(list, hall, checks, object); !slices.Equal(got, want) {
					t.Fatalf("Suspects(%v, %d, %v, %d) = %v; want %v", list, hall, checks, object, got, want)
				}
				counts["suspects"] += len(want)
			}
		}
		if got := impl.MissingObjects(checks, 4); !slices.Equal(got, missing) {
			t.Fatalf("MissingObjects(%v, 4) = %v; want %v", checks, got, missing)
		}
		counts["missing"] += len(missing)
		counts["not missing"] += 4 - len(missing)
	}
	if counts["missing"] < 3000 || counts["not missing"] < 3000 || counts["suspects"] < 3000 {
		t.Errorf("too few objects are missing, or not, or have suspects: %v", counts)
	}
}

func TestStockArguments(t *testing.T) {
	all := slices.Concat(there(3), gone(9), ofObject(1, gone(4, 2)), there(1), gone(5))
	allStays := stays(9, 0, 2, 5, 3, 0, 4, 8, 9, 0, 4, 4, 1, 0, 0, 9, 2, 1, 3, 4)
	before, staysBefore := slices.Clone(all), slices.Clone(allStays)
	for n := range len(all) {
		list := all[:n]
		impl.LastSeen(list, 0)
		impl.FirstMissed(list, 0)
		impl.IsMissing(list, 0)
		checkNumbersNew(t, func() []int { return impl.MissingObjects(list, 3) })
		for k := range len(allStays) {
			checkNumbersNew(t, func() []int { return impl.Suspects(allStays[:k], 0, list, n%2) })
		}
	}
	if !slices.Equal(all, before) || !slices.Equal(allStays, staysBefore) {
		t.Errorf("a function changes its arguments: %v, %v", all, allStays)
	}
}
