package tests

import (
	"math"
	"math/rand"
	"regexp"
	"slices"
	"strconv"
	"strings"
	"testing"

	"loop.example/g00991/impl"
)

// moves takes Object, To, First and Second by turns.
func moves(numbers ...int) []impl.Move {
	var list []impl.Move
	for i := 0; i+3 < len(numbers); i += 4 {
		list = append(list, impl.Move{Object: numbers[i], To: numbers[i+1], First: numbers[i+2], Second: numbers[i+3]})
	}
	return list
}

func arePlaces(h impl.House, places []int) bool {
	return isHouse(h) && len(places) <= 6 && areHalls(h, places)
}

// watchers counts the guards of a move who are in one of two halls.
func watchers(guards []int, m impl.Move, from int) int {
	count := 0
	for k, hall := range guards {
		if (k == m.First || k == m.Second) && (hall == from || hall == m.To) {
			count++
		}
	}
	return count
}

// isCarried tells whether there is such an object, and a door for it.
func isCarried(h impl.House, places []int, m impl.Move) bool {
	for object, hall := range places {
		if object == m.Object && isDoor(h, hall, m.To) {
			return true
		}
	}
	return false
}

func isMove(h impl.House, places []int, guards []int, m impl.Move) bool {
	if !arePlaces(h, places) || len(guards) > 6 || !areHalls(h, guards) || !isCarried(h, places, m) {
		return false
	}
	return watchers(guards, m, places[m.Object]) == 2
}

func withNumber(list []int, k int, n int) []int {
	list = slices.Clone(list)
	list[k] = n
	return list
}

// checkMoved compares CanMove and MoveObject with isMove.
func checkMoved(t *testing.T, name string, h impl.House, places []int, guards []int, m impl.Move) bool {
	t.Helper()
	can := isMove(h, places, guards, m)
	if got := impl.CanMove(h, places, guards, m); got != can {
		t.Fatalf("%s: CanMove(%v, %v, %v, %v) = %v", name, h, places, guards, m, got)
	}
	want := places
	if can {
		want = withNumber(places, m.Object, m.To)
	}
	if got, ok := impl.MoveObject(h, places, guards, m); !slices.Equal(got, want) || ok != can {
		t.Fatalf("%s: MoveObject(%v, %v, %v, %v) = %v, %v; want %v, %v", name, h, places, guards, m, got, ok, want, can)
	}
	return can
}

func TestMaxObjects(t *testing.T) {
	if impl.MaxObjects != 6 {
		t.Error("the limit of chapter 35 differs from the document")
	}
}

func TestPlacesOk(t *testing.T) {
	for _, c := range []struct {
		name   string
		h      impl.House
		places []int
		want   bool
	}{
		{"no objects", yard(), nil, true},
		{"no objects, but memory", yard(), []int{}, true},
		{"no objects, no house", house(0), nil, false},
		{"one object", yard(), []int{3}, true},
		{"two objects in one hall", yard(), []int{3, 3}, true},
		{"one hall", house(1), []int{0, 0, 0}, true},
		{"6 objects", corridor(), []int{6, 5, 4, 3, 2, 1}, true},
		{"7 objects", corridor(), []int{6, 5, 4, 3, 2, 1, 0}, false},
		{"7 objects in one hall", yard(), []int{0, 0, 0, 0, 0, 0, 0}, false},
		{"a hall past the end", yard(), []int{0, 4}, false},
		{"a hall past the end, the first one", yard(), []int{4, 0}, false},
		{"a hall below 0", yard(), []int{0, -1}, false},
	} {
		if got := impl.PlacesOk(c.h, c.places); got != c.want || arePlaces(c.h, c.places) != c.want {
			t.Errorf("%s: PlacesOk(%v, %v) = %v", c.name, c.h, c.places, got)
		}
	}
}

func TestCanMove(t *testing.T) {
	six := []int{0, 0, 0, 0, 0, 0}
	for _, c := range []struct {
		name           string
		h              impl.House
		places, guards []int
		m              impl.Move
		want           bool
	}{
		{"both guards in the hall of the object", yard(), []int{0}, []int{0, 0}, moves(0, 1, 0, 1)[0], true},
		{"both guards in the next hall", yard(), []int{0}, []int{1, 1}, moves(0, 1, 0, 1)[0], true},
		{"one guard in each hall", yard(), []int{0}, []int{0, 1}, moves(0, 1, 0, 1)[0], true},
		{"one guard in each hall, the other way", yard(), []int{0}, []int{1, 0}, moves(0, 1, 0, 1)[0], true},
		{"the second guard elsewhere", yard(), []int{0}, []int{0, 2}, moves(0, 1, 0, 1)[0], false},
		{"the first guard elsewhere", yard(), []int{0}, []int{3, 1}, moves(0, 1, 0, 1)[0], false},
		{"both guards elsewhere", yard(), []int{0}, []int{3, 2}, moves(0, 1, 0, 1)[0], false},
		{"a third guard elsewhere", yard(), []int{0}, []int{3, 0, 1}, moves(0, 1, 2, 1)[0], true},
		{"a third guard there, but not asked", yard(), []int{0}, []int{0, 0, 3}, moves(0, 1, 0, 2)[0], false},
		{"the same guard twice", yard(), []int{0}, []int{0, 0}, moves(0, 1, 0, 0)[0], false},
		{"the same guard twice, the second one", yard(), []int{0}, []int{0, 0}, moves(0, 1, 1, 1)[0], false},
		{"one guard", yard(), []int{0}, []int{0}, moves(0, 1, 0, 1)[0], false},
		{"no guards", yard(), []int{0}, nil, moves(0, 1, 0, 1)[0], false},
		{"a guard past the end", yard(), []int{0}, []int{0, 0}, moves(0, 1, 0, 2)[0], false},
		{"a first guard past the end", yard(), []int{0}, []int{0, 0}, moves(0, 1, 2, 0)[0], false},
		{"a guard below 0", yard(), []int{0}, []int{0, 0}, moves(0, 1, -1, 0)[0], false},
		{"a second guard below 0", yard(), []int{0}, []int{0, 0}, moves(0, 1, 0, -1)[0], false},
		{"a door back", yard(), []int{1}, []int{0, 1}, moves(0, 0, 0, 1)[0], true},
		{"to the same hall", yard(), []int{0}, []int{0, 0}, moves(0, 0, 0, 1)[0], false},
		{"to a hall without a door between", yard(), []int{0}, []int{0, 3}, moves(0, 3, 0, 1)[0], false},
		{"to a hall past the end", yard(), []int{0}, []int{0, 0}, moves(0, 4, 0, 1)[0], false},
		{"to a hall below 0", yard(), []int{0}, []int{0, 0}, moves(0, -1, 0, 1)[0], false},
		{"the second object", yard(), []int{0, 3}, []int{3, 3}, moves(1, 2, 0, 1)[0], true},
		{"the hall of another object", yard(), []int{0, 3}, []int{3, 3}, moves(0, 2, 0, 1)[0], false},
		{"an object past the end", yard(), []int{0}, []int{0, 0}, moves(1, 1, 0, 1)[0], false},
		{"an object below 0", yard(), []int{0}, []int{0, 0}, moves(-1, 1, 0, 1)[0], false},
		{"no objects", yard(), nil, []int{0, 0}, moves(0, 1, 0, 1)[0], false},
		{"6 objects", yard(), six, []int{0, 0}, moves(5, 1, 0, 1)[0], true},
		{"7 objects", yard(), append(six, 0), []int{0, 0}, moves(5, 1, 0, 1)[0], false},
		{"6 guards", yard(), []int{0}, six, moves(0, 1, 4, 5)[0], true},
		{"7 guards", yard(), []int{0}, append(six, 0), moves(0, 1, 0, 1)[0], false},
		{"another guard in no hall", yard(), []int{0}, []int{0, 0, 4}, moves(0, 1, 0, 1)[0], false},
		{"another guard in a hall below 0", yard(), []int{0}, []int{0, 0, -1}, moves(0, 1, 0, 1)[0], false},
		{"another object in no hall", yard(), []int{0, 4}, []int{0, 0}, moves(0, 1, 0, 1)[0], false},
		{"one hall", house(1), []int{0}, []int{0, 0}, moves(0, 0, 0, 1)[0], false},
		{"along a corridor", corridor(), []int{6}, []int{6, 5}, moves(0, 5, 1, 0)[0], true},
	} {
		if got := checkMoved(t, c.name, c.h, c.places, c.guards, c.m); got != c.want {
			t.Errorf("%s: should be %v", c.name, got)
		}
	}
}

func TestMoveText(t *testing.T) {
	for _, c := range []struct {
		m    impl.Move
		want string
	}{
		{moves(0, 1, 0, 1)[0], "move 0 1 0 1"},
		{impl.Move{}, "move 0 0 0 0"},
		{moves(20, 20, 20, 20)[0], "move 20 20 20 20"},
		{moves(1, 2, 3, 4)[0], "move 1 2 3 4"},
		{moves(10, 9, 20, 11)[0], "move 10 9 20 11"},
		{moves(21, 0, 0, 0)[0], ""},
		{moves(0, 21, 0, 0)[0], ""},
		{moves(0, 0, 21, 0)[0], ""},
		{moves(0, 0, 0, 21)[0], ""},
		{moves(-1, 0, 0, 0)[0], ""},
		{moves(0, -1, 0, 0)[0], ""},
		{moves(0, 0, -1, 0)[0], ""},
		{moves(0, 0, 0, -1)[0], ""},
	} {
		if got := impl.MoveText(c.m); got != c.want {
			t.Errorf("MoveText(%v) = %q; want %q", c.m, got, c.want)
		}
	}
	for _, n := range outside(0, 20) {
		for _, m := range moves(n, 0, 0, 0, 0, n, 0, 0, 0, 0, n, 0, 0, 0, 0, n, n, n, n, n) {
			if got := impl.MoveText(m); got != "" {
				t.Errorf("MoveText(%v) = %q", m, got)
			}
		}
	}
}

func TestParseMove(t *testing.T) {
	for _, c := range []struct {
		name, text string
		want       impl.Move
		ok         bool
	}{
		{"a move", "move 0 1 0 1", moves(0, 1, 0, 1)[0], true},
		{"all different", "move 1 2 3 4", moves(1, 2, 3, 4)[0], true},
		{"all 0", "move 0 0 0 0", impl.Move{}, true},
		{"all 20", "move 20 20 20 20", moves(20, 20, 20, 20)[0], true},
		{"21", "move 0 0 0 21", impl.Move{}, false},
		{"21 first", "move 21 0 0 0", impl.Move{}, false},
		{"100", "move 0 100 0 0", impl.Move{}, false},
		{"below 0", "move 0 -1 0 0", impl.Move{}, false},
		{"minus 0", "move 0 -0 0 0", impl.Move{}, false},
		{"a sign", "move 0 +1 0 0", impl.Move{}, false},
		{"a leading zero", "move 0 01 0 0", impl.Move{}, false},
		{"two zeros", "move 0 1 0 00", impl.Move{}, false},
		{"two spaces", "move 0  1 0 1", impl.Move{}, false},
		{"two spaces behind the word", "move  0 1 0 1", impl.Move{}, false},
		{"a space at the end", "move 0 1 0 1 ", impl.Move{}, false},
		{"a space at the beginning", " move 0 1 0 1", impl.Move{}, false},
		{"a newline at the end", "move 0 1 0 1\n", impl.Move{}, false},
		{"a tab", "move 0 1 0\t1", impl.Move{}, false},
		{"too few numbers", "move 0 1 0", impl.Move{}, false},
		{"too few numbers and a space", "move 0 1 0 ", impl.Move{}, false},
		{"too many numbers", "move 0 1 0 1 0", impl.Move{}, false},
		{"no numbers", "move", impl.Move{}, false},
		{"four spaces", "    ", impl.Move{}, false},
		{"the empty text", "", impl.Move{}, false},
		{"another word", "walk 0 1 0 1", impl.Move{}, false},
		{"an upper case word", "Move 0 1 0 1", impl.Move{}, false},
		{"no word", "0 1 0 1", impl.Move{}, false},
		{"no word, but a space", " 0 1 0 1", impl.Move{}, false},
		{"a longer word", "moves 0 1 0 1", impl.Move{}, false},
		{"no number", "move 0 x 0 1", impl.Move{}, false},
		{"a digit of another script", "move 0 \u0661 0 1", impl.Move{}, false},
		{"a byte behind", "move 0 1 0 1\x00", impl.Move{}, false},
		{"a number of many digits", "move 0 1 0 18446744073709551617", impl.Move{}, false},
		{"a number with 32 bits more", "move 0 1 0 4294967297", impl.Move{}, false},
	} {
		if got, ok := impl.ParseMove(c.text); got != c.want || ok != c.ok {
			t.Errorf("%s: ParseMove(%q) = %v, %v; want %v, %v", c.name, c.text, got, ok, c.want, c.ok)
		}
	}
}

// checkMoveText compares with a pattern of the texts.
func checkMoveText(t *testing.T, text string) bool {
	t.Helper()
	number := ` (0|[1-9]|1[0-9]|20)`
	parts := regexp.MustCompile(`^move` + strings.Repeat(number, 4) + `$`).FindStringSubmatch(text)
	var numbers [4]int
	for k := range numbers {
		if parts != nil {
			numbers[k], _ = strconv.Atoi(parts[k+1])
		}
	}
	want := impl.Move{Object: numbers[0], To: numbers[1], First: numbers[2], Second: numbers[3]}
	if got, ok := impl.ParseMove(text); got != want || ok != (parts != nil) {
		t.Fatalf("ParseMove(%q) = %v, %v; want %v, %v", text, got, ok, want, parts != nil)
	}
	if parts != nil && impl.MoveText(want) != text {
		t.Fatalf("MoveText(%v) = %q; want %q", want, impl.MoveText(want), text)
	}
	return parts != nil
}

func TestMoveTextMany(t *testing.T) {
	source, counts := rand.New(rand.NewSource(135)), map[bool]int{}
	for range 20000 {
		text := []byte("move")
		for range 4 {
			text = append(text, ' ')
			text = strconv.AppendInt(text, int64(source.Intn(22)), 10)
		}
		counts[checkMoveText(t, string(text))]++
		k := source.Intn(len(text))
		others := "0123456789 -+movex\n\t\x00\xff"
		text[k] = others[source.Intn(len(others))]
		counts[checkMoveText(t, string(text))]++
		counts[checkMoveText(t, string(slices.Delete(text, k, k+1)))]++
	}
	if counts[true] < 5000 || counts[false] < 5000 {
		t.Errorf("too few texts are moves, or not: %v", counts)
	}
}

func TestReplayMoves(t *testing.T) {
	there, back := moves(0, 1, 0, 1)[0], moves(0, 0, 0, 1)[0]
	thirty := slices.Repeat([]impl.Move{there, back}, 15)
	for _, c := range []struct {
		name   string
		h      impl.House
		places []int
		list   []impl.Move
		want   []int
		ok     bool
	}{
		{"no moves", yard(), []int{0, 3}, nil, []int{0, 3}, true},
		{"no moves, but memory", yard(), []int{0, 3}, []impl.Move{}, []int{0, 3}, true},
		{"no moves and no objects", yard(), nil, nil, nil, true},
		{"no moves, no house", house(0), []int{0}, nil, []int{0}, false},
		{"no moves, an object in no hall", yard(), []int{0, 4}, nil, []int{0, 4}, false},
		{"one move", yard(), []int{0, 3}, moves(0, 1, 0, 1), []int{1, 3}, true},
		{"a move of another object", yard(), []int{0, 3}, moves(1, 1, 0, 1), []int{0, 1}, true},
		{"there and back", yard(), []int{0, 3}, []impl.Move{there, back}, []int{0, 3}, true},
		{"around", yard(), []int{0, 3}, moves(0, 1, 0, 0, 0, 3, 0, 0, 0, 2, 0, 0), []int{2, 3}, true},
		{"two objects by turns", yard(), []int{0, 3}, moves(0, 1, 0, 0, 1, 2, 0, 0, 0, 3, 0, 0, 1, 0, 0, 0), []int{3, 0}, true},
		{"guards are not looked at", yard(), []int{0}, moves(0, 1, -5, -5, 0, 3, math.MaxInt, math.MinInt), []int{3}, true},
		{"the first move fails", yard(), []int{0}, moves(0, 3, 0, 1, 0, 1, 0, 1), []int{0}, false},
		{"a move behind others fails", yard(), []int{0, 0}, moves(0, 1, 0, 1, 0, 3, 0, 1, 1, 3, 0, 1), []int{0, 0}, false},
		{"the last move fails", yard(), []int{0}, moves(0, 1, 0, 1, 0, 2, 0, 1), []int{0}, false},
		{"it would fail from the beginning", yard(), []int{0}, moves(0, 1, 0, 1, 0, 3, 0, 1), []int{3}, true},
		{"to the same hall", yard(), []int{0}, moves(0, 0, 0, 1), []int{0}, false},
		{"the same move twice", yard(), []int{0}, []impl.Move{there, there}, []int{0}, false},
		{"an object past the end", yard(), []int{0}, moves(1, 1, 0, 1), []int{0}, false},
		{"an object below 0", yard(), []int{0}, moves(-1, 1, 0, 1), []int{0}, false},
		{"a hall past the end", yard(), []int{0}, moves(0, 4, 0, 1), []int{0}, false},
		{"a hall below 0", yard(), []int{0}, moves(0, -1, 0, 1), []int{0}, false},
		{"30 moves", yard(), []int{0}, thirty, []int{0}, true},
		{"29 moves", yard(), []int{0}, thirty[:29], []int{1}, true},
		{"31 moves", yard(), []int{0}, append(slices.Clip(thirty), there), []int{0}, false},
		{"7 objects", yard(), []int{0, 0, 0, 0, 0, 0, 0}, moves(0, 1, 0, 1), []int{0, 0, 0, 0, 0, 0, 0}, false},
		{"6 objects", yard(), []int{0, 0, 0, 0, 0, 0}, moves(5, 1, 0, 1), []int{0, 0, 0, 0, 0, 1}, true},
	} {
		if got, ok := impl.ReplayMoves(c.h, c.places, c.list); !slices.Equal(got, c.want) || ok != c.ok {
			t.Errorf("%s: ReplayMoves(%v, %v, %v) = %v, %v; want %v, %v", c.name, c.h, c.places, c.list, got, ok, c.want, c.ok)
		}
	}
}

// Promise 35: a move changes the hall of one object, needs two guards, and can be read back and replayed.
func TestMovesMany(t *testing.T) {
	source, counts := rand.New(rand.NewSource(136)), map[string]int{}
	for _, h := range append(someHouses(235, 300), goodHouses()...) {
		if !isHouse(h) {
			continue
		}
		places, guards := make([]int, source.Intn(8)), make([]int, source.Intn(8))
		for k := range places {
			places[k] = source.Intn(h.Halls)
		}
		before := slices.Clone(places)
		var list []impl.Move
		for range 200 {
			m := impl.Move{Object: source.Intn(len(places)+2) - 1, To: source.Intn(h.Halls+1) - 1, First: source.Intn(6), Second: source.Intn(8) - 1}
			for k := range guards {
				guards[k] = source.Intn(h.Halls)
				if m.To >= 0 && source.Intn(5) > 0 {
					guards[k] = m.To
				}
			}
			if !checkMoved(t, "at random", h, places, guards, m) {
				counts["not moved"]++
				continue
			}
			counts["moved"]++
			checkMoveText(t, impl.MoveText(m))
			places, _ = impl.MoveObject(h, places, guards, m)
			if read, ok := impl.ParseMove(impl.MoveText(m)); ok {
				list = append(list, read)
			}
			got, ok := impl.ReplayMoves(h, before, list)
			if len(list) > 30 && (ok || !slices.Equal(got, before)) || len(list) <= 30 && (!ok || !slices.Equal(got, places)) {
				t.Fatalf("ReplayMoves(%v, %v, %v) = %v, %v; want %v", h, before, list, got, ok, places)
			}
		}
	}
	if counts["moved"] < 500 || counts["not moved"] < 5000 {
		t.Errorf("too few objects are moved, or not: %v", counts)
	}
}

func TestReplayMany(t *testing.T) {
	source, counts := rand.New(rand.NewSource(137)), map[bool]int{}
	for range 3000 {
		before := []int{source.Intn(4), source.Intn(4)}
		var list []impl.Move
		for range source.Intn(5) {
			list = append(list, impl.Move{Object: source.Intn(5) / 2, To: source.Intn(4), First: source.Intn(99), Second: source.Intn(99)})
		}
		want, can := slices.Clone(before), true
		for _, m := range list {
			if can = can && isCarried(yard(), want, m); can {
				want[m.Object] = m.To
			}
		}
		if !can {
			want = before
		}
		counts[can]++
		if got, ok := impl.ReplayMoves(yard(), before, list); !slices.Equal(got, want) || ok != can {
			t.Fatalf("ReplayMoves(%v, %v) = %v, %v; want %v, %v", before, list, got, ok, want, can)
		}
	}
	if counts[true] < 500 || counts[false] < 500 {
		t.Errorf("too few lists can be replayed, or not: %v", counts)
	}
}

func TestMovesInvalid(t *testing.T) {
	m := moves(0, 1, 0, 1)[0]
	for name, h := range badHouses() {
		checkMoved(t, name, h, []int{0}, []int{0, 0}, m)
		checkMoved(t, name, h, []int{0}, []int{0, 1}, m)
		if impl.PlacesOk(h, nil) || impl.PlacesOk(h, []int{0}) {
			t.Errorf("%s: PlacesOk(%v) = true", name, h)
		}
		for _, list := range [][]impl.Move{nil, {m}} {
			if got, ok := impl.ReplayMoves(h, []int{0, 77}, list); ok || !slices.Equal(got, []int{0, 77}) {
				t.Errorf("%s: ReplayMoves(%v, %v) = %v, %v", name, h, list, got, ok)
			}
		}
	}
	for _, h := range goodHouses()[1:] {
		m.To = impl.DoorsFrom(h, 0)[0]
		if !checkMoved(t, "a good one", h, []int{0, 0}, []int{0, 0}, m) {
			t.Errorf("%v cannot be moved in %v", m, h)
		}
		for _, n := range append(outside(0, h.Halls-1), outside(-1<<40, 1<<40)...) {
			for _, places := range [][]int{{n, 0}, {0, n}, {n}} {
				checkMoved(t, "a place in no hall", h, places, []int{0, 0}, m)
				if got, ok := impl.ReplayMoves(h, places, []impl.Move{m}); ok || !slices.Equal(got, places) || impl.PlacesOk(h, places) {
					t.Errorf("ReplayMoves(%v, %v) = %v, %v", h, places, got, ok)
				}
			}
			for _, guards := range [][]int{{n, 0, 0}, {0, n, 0}, {0, 0, n}, {n, n}} {
				checkMoved(t, "a guard in no hall", h, []int{0, 0}, guards, m)
			}
			for _, bad := range moves(n, m.To, 0, 1, 0, n, 0, 1, 0, m.To, n, 1, 0, m.To, 0, n, 0, m.To, n, n, n, n, n, n) {
				if n > 1 || n < 0 {
					checkMoved(t, "a bad number", h, []int{0, 0}, []int{0, 0}, bad)
				}
			}
			if n >= h.Halls || n < 0 {
				for _, bad := range moves(n, m.To, 0, 1, 0, n, 0, 1) {
					if got, ok := impl.ReplayMoves(h, []int{0, 0}, []impl.Move{bad}); ok || !slices.Equal(got, []int{0, 0}) {
						t.Errorf("ReplayMoves(%v, %v) = %v, %v", h, bad, got, ok)
					}
				}
			}
		}
	}
}

func TestMoveArguments(t *testing.T) {
	checkHousesKept(t, func(h impl.House) {
		places, guards, list := []int{0, 1, 0, 77}, []int{0, 1, 0, 78}, moves(0, 1, 0, 1, 2, 1, 0, 1, 1, 0, 0, 1, 9, 9, 9, 9)
		before := slices.Clone(list)
		for n := range 4 {
			for _, m := range moves(0, 1, 0, 1, 1, 0, 1, 2, 2, 1, 0, 2, 3, 1, 0, 1, 0, 0, 0, 1) {
				impl.PlacesOk(h, places[:n])
				impl.CanMove(h, places[:n], guards[:3], m)
				checkNumbersNew(t, func() []int {
					after, _ := impl.MoveObject(h, places[:n], guards[:3], m)
					return after
				})
				checkNumbersNew(t, func() []int {
					after, _ := impl.ReplayMoves(h, places[:3], list[:n])
					return after
				})
			}
		}
		checkNumbersNew(t, func() []int {
			after, _ := impl.ReplayMoves(h, places[:3], slices.Repeat(list[:1], 31))
			return after
		})
		if !slices.Equal(places, []int{0, 1, 0, 77}) || !slices.Equal(guards, []int{0, 1, 0, 78}) || !slices.Equal(list, before) {
			t.Errorf("a function changes its arguments: %v, %v, %v", places, guards, list)
		}
	})
}
