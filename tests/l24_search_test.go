package tests

import (
	"math"
	"math/rand"
	"slices"
	"testing"

	"loop.example/g00991/impl"
)

// guardsOf looks at all pairs of halls.
func guardsOf(h impl.House, searched []int) []int {
	var guards []int
	for a := range h.Halls {
		for b := range h.Halls {
			if slices.Contains(searched, a) && !slices.Contains(searched, b) && isDoor(h, a, b) && !slices.Contains(guards, a) {
				guards = append(guards, a)
			}
		}
	}
	return guards
}

func isOrder(h impl.House, order []int) bool {
	return slices.Equal(slices.Sorted(slices.Values(order)), allHalls(h))
}

// ordersOf are all orders of n halls, in lexicographic order.
func ordersOf(n int) [][]int {
	orders := [][]int{nil}
	for range n {
		var longer [][]int
		for _, order := range orders {
			for hall := range n {
				if !slices.Contains(order, hall) {
					longer = append(longer, append(slices.Clone(order), hall))
				}
			}
		}
		orders = longer
	}
	return orders
}

// guardCounts are the lengths of guardsOf for all sets of halls; the bits of a number tell which halls are in the set.
func guardCounts(h impl.House) []int {
	var counts []int
	for set := range 1 << h.Halls {
		var searched []int
		for hall := range h.Halls {
			if set>>hall&1 == 1 {
				searched = append(searched, hall)
			}
		}
		counts = append(counts, len(guardsOf(h, searched)))
	}
	return counts
}

func neededFor(counts []int, order []int) int {
	needed, set := 0, 0
	for _, hall := range order {
		needed = max(needed, counts[set]+1)
		set |= 1 << hall
	}
	return needed
}

// checkSearch goes through all orders of a house; the program gives up orders that are no better.
func checkSearch(t *testing.T, h impl.House, orders [][]int) int {
	t.Helper()
	counts, fewest := guardCounts(h), math.MaxInt
	var best []int
	for k, order := range orders {
		needed := neededFor(counts, order)
		if needed < fewest {
			best, fewest = order, needed
		}
		if k%(1+len(orders)/50) == 0 {
			if got := impl.GuardsFor(h, order); got != needed || !impl.OrderOk(h, order) {
				t.Fatalf("GuardsFor(%v, %v) = %d, OrderOk = %v; want %d", h, order, got, impl.OrderOk(h, order), needed)
			}
		}
	}
	if got := impl.FewestSearchers(h); got != fewest {
		t.Fatalf("FewestSearchers(%v) = %d; want %d", h, got, fewest)
	}
	if got := impl.BestOrder(h); !slices.Equal(got, best) {
		t.Fatalf("BestOrder(%v) = %v; want %v", h, got, best)
	}
	return fewest
}

func TestSearch(t *testing.T) {
	for _, c := range []struct {
		name   string
		h      impl.House
		fewest int
		best   []int
	}{
		{"one hall", house(1), 1, []int{0}},
		{"two halls", house(2, 0, 1), 2, []int{0, 1}},
		{"three halls in a row", house(3, 0, 1, 1, 2), 2, []int{0, 1, 2}},
		{"three halls in a row, the first one in the middle", house(3, 0, 1, 0, 2), 2, []int{0, 1, 2}},
		{"three halls around", house(3, 0, 1, 0, 2, 1, 2), 3, []int{0, 1, 2}},
		{"a yard", yard(), 3, []int{0, 1, 2, 3}},
		{"a corridor", corridor(), 2, []int{0, 1, 2, 3, 4, 5, 6}},
		{"a corridor, in another order", house(4, 0, 3, 1, 2, 1, 3), 2, []int{0, 3, 1, 2}},
		{"a hall with doors to all others", house(7, 0, 1, 0, 2, 0, 3, 0, 4, 0, 5, 0, 6), 2, []int{0, 1, 2, 3, 4, 5, 6}},
		{"a hall with doors to all others, the last one", house(5, 0, 4, 1, 4, 2, 4, 3, 4), 2, []int{0, 4, 1, 2, 3}},
		{"a castle", castle(), 4, []int{0, 1, 2, 3, 4, 5, 6}},
		{"a tower", tower(), 2, []int{0, 3, 1, 2, 5, 4}},
		{"four halls, each with doors to all", house(4, 0, 1, 0, 2, 0, 3, 1, 2, 1, 3, 2, 3), 4, []int{0, 1, 2, 3}},
		{"three corridors that meet", house(7, 0, 1, 0, 3, 0, 5, 1, 2, 3, 4, 5, 6), 3, []int{0, 1, 2, 3, 4, 5, 6}},
	} {
		if got := impl.FewestSearchers(c.h); got != c.fewest {
			t.Errorf("%s: FewestSearchers(%v) = %d; want %d", c.name, c.h, got, c.fewest)
		}
		if got := impl.BestOrder(c.h); !slices.Equal(got, c.best) {
			t.Errorf("%s: BestOrder(%v) = %v; want %v", c.name, c.h, got, c.best)
		}
		checkSearch(t, c.h, ordersOf(c.h.Halls))
	}
}

func TestGuardsFor(t *testing.T) {
	many := house(7, 0, 1, 0, 2, 0, 3, 0, 4, 0, 5, 0, 6)
	for _, c := range []struct {
		name  string
		h     impl.House
		order []int
		want  int
	}{
		{"one hall", house(1), []int{0}, 1},
		{"two halls", house(2, 0, 1), []int{1, 0}, 2},
		{"a corridor from the beginning", corridor(), []int{0, 1, 2, 3, 4, 5, 6}, 2},
		{"a corridor from the end", corridor(), []int{6, 5, 4, 3, 2, 1, 0}, 2},
		{"a corridor from the middle", corridor(), []int{3, 2, 4, 1, 5, 0, 6}, 3},
		{"every second hall of a corridor", corridor(), []int{0, 2, 4, 6, 1, 3, 5}, 5},
		{"a hall with many doors first", many, []int{0, 1, 2, 3, 4, 5, 6}, 2},
		{"a hall with many doors at last", many, []int{6, 5, 4, 3, 2, 1, 0}, 7},
		{"a hall with many doors in the middle", many, []int{1, 2, 0, 3, 4, 5, 6}, 3},
		{"a yard across", yard(), []int{0, 3, 1, 2}, 3},
		{"a yard along", yard(), []int{0, 1, 2, 3}, 3},
		{"the last hall needs the most", house(3, 0, 2, 1, 2), []int{0, 1, 2}, 3},
		{"an order that lacks a hall", yard(), []int{0, 1, 2}, -1},
		{"an order that lacks two halls", yard(), []int{0, 1}, -1},
		{"no order", yard(), nil, -1},
		{"no order, but memory", yard(), []int{}, -1},
		{"a hall twice in place of another one", yard(), []int{0, 0, 1, 2}, -1},
		{"a hall twice, at the end", yard(), []int{0, 1, 2, 0}, -1},
		{"one too many", yard(), []int{0, 1, 2, 3, 0}, -1},
		{"one too many that is no hall", yard(), []int{0, 1, 2, 3, 4}, -1},
		{"no hall", yard(), []int{0, 1, 2, 4}, -1},
		{"no hall, below 0", yard(), []int{-1, 0, 1, 2}, -1},
		{"numbers from 1", yard(), []int{1, 2, 3, 4}, -1},
		{"all twice", yard(), []int{0, 1, 2, 3, 0, 1, 2, 3}, -1},
		{"many", yard(), slices.Repeat([]int{0, 1, 2, 3}, 1000), -1},
		{"one hall twice", house(1), []int{0, 0}, -1},
		{"one hall, another one", house(1), []int{1}, -1},
	} {
		if got := impl.GuardsFor(c.h, c.order); got != c.want {
			t.Errorf("%s: GuardsFor(%v, %v) = %d; want %d", c.name, c.h, c.order, got, c.want)
		}
		if got := impl.OrderOk(c.h, c.order); got != (c.want > 0) || got != isOrder(c.h, c.order) {
			t.Errorf("%s: OrderOk(%v, %v) = %v", c.name, c.h, c.order, got)
		}
	}
}

func TestGuardsAfter(t *testing.T) {
	for _, c := range []struct {
		name     string
		h        impl.House
		searched []int
		want     []int
	}{
		{"no halls", yard(), nil, nil},
		{"no halls, but memory", yard(), []int{}, nil},
		{"the only hall", house(1), []int{0}, nil},
		{"one hall", yard(), []int{2}, []int{2}},
		{"two halls", yard(), []int{0, 1}, []int{0, 1}},
		{"two halls, backwards", yard(), []int{1, 0}, []int{0, 1}},
		{"two halls, each twice", yard(), []int{1, 0, 0, 1}, []int{0, 1}},
		{"a hall twice", yard(), []int{3, 3}, []int{3}},
		{"all but one", yard(), []int{3, 1, 0}, []int{0, 3}},
		{"all", yard(), []int{2, 3, 1, 0}, nil},
		{"all, more than once", yard(), []int{2, 3, 1, 0, 0, 2}, nil},
		{"a piece of a corridor", corridor(), []int{4, 3, 2}, []int{2, 4}},
		{"the beginning of a corridor", corridor(), []int{0, 1, 2, 3}, []int{3}},
		{"the ends of a corridor", corridor(), []int{6, 0}, []int{0, 6}},
		{"all but the middle of a castle", castle(), []int{6, 5, 4, 3, 2, 1}, []int{1, 2, 3, 4, 5, 6}},
		{"half a castle", castle(), []int{0, 1, 2, 3}, []int{0, 1, 3}},
		{"many times", yard(), slices.Repeat([]int{1, 0}, 2000), []int{0, 1}},
		{"no hall", yard(), []int{4}, nil},
		{"no hall, at last", yard(), []int{0, 1, 4}, nil},
		{"no hall, at first", yard(), []int{-1, 0, 1}, nil},
		{"no hall, in the middle", yard(), []int{0, math.MaxInt, 1}, nil},
		{"no hall, the least int", yard(), []int{0, 1, math.MinInt}, nil},
	} {
		if got := impl.GuardsAfter(c.h, c.searched); !slices.Equal(got, c.want) {
			t.Errorf("%s: GuardsAfter(%v, %v) = %v; want %v", c.name, c.h, c.searched, got, c.want)
		}
	}
}

func TestGuardsAfterMany(t *testing.T) {
	source, counts := rand.New(rand.NewSource(91)), map[int]int{}
	for _, h := range append(someHouses(92, 400), goodHouses()...) {
		for range 20 {
			var searched []int
			for range source.Intn(h.Halls + 3) {
				searched = append(searched, source.Intn(h.Halls))
			}
			var want []int
			if isHouse(h) {
				want = guardsOf(h, searched)
			}
			if got := impl.GuardsAfter(h, searched); !slices.Equal(got, want) {
				t.Fatalf("GuardsAfter(%v, %v) = %v; want %v", h, searched, got, want)
			}
			counts[len(want)]++
		}
	}
	for n := range 6 {
		if counts[n] < 50 {
			t.Errorf("only %d lists need %d guards", counts[n], n)
		}
	}
}

// Promise 24: no order needs fewer guards than the best one.
func TestSearchMany(t *testing.T) {
	fewest := map[int]int{}
	for n := 1; n <= 5; n++ {
		orders := ordersOf(n)
		for _, doors := range doorLists(n) {
			if h := (impl.House{Halls: n, Doors: doors}); isHouse(h) {
				fewest[checkSearch(t, h, orders)]++
			}
		}
	}
	orders := map[int][][]int{6: ordersOf(6), 7: ordersOf(7)}
	for _, h := range someHouses(93, 150) {
		if isHouse(h) {
			fewest[checkSearch(t, h, orders[h.Halls])]++
		}
	}
	for n := 2; n <= 4; n++ {
		if fewest[n] < 20 {
			t.Errorf("only %d houses need %d guards", fewest[n], n)
		}
	}
}

func TestOrderOkMany(t *testing.T) {
	source, counts := rand.New(rand.NewSource(94)), map[bool]int{}
	for _, h := range goodHouses() {
		for range 300 {
			order := source.Perm(h.Halls)
			switch source.Intn(4) {
			case 0:
				order[source.Intn(h.Halls)] = source.Intn(h.Halls+2) - 1
			case 1:
				order = append(order, source.Intn(h.Halls))
			case 2:
				order = order[1:]
			}
			want := isOrder(h, order)
			counts[want]++
			if got := impl.OrderOk(h, order); got != want || (impl.GuardsFor(h, order) == -1) == want {
				t.Fatalf("OrderOk(%v, %v) = %v, GuardsFor = %d", h, order, got, impl.GuardsFor(h, order))
			}
		}
	}
	if counts[true] < 300 || counts[false] < 300 {
		t.Errorf("too few lists are orders, or none: %v", counts)
	}
}

func TestSearchNumber(t *testing.T) {
	for _, h := range goodHouses() {
		for _, far := range farIndexes(h.Halls) {
			if far >= 0 && far < h.Halls {
				continue
			}
			for k := range h.Halls {
				order := allHalls(h)
				order[k] = far
				if impl.OrderOk(h, order) || impl.GuardsFor(h, order) != -1 || len(impl.GuardsAfter(h, order)) != 0 {
					t.Errorf("%v: OrderOk(%v) = %v, GuardsFor = %d, GuardsAfter = %v", h, order, impl.OrderOk(h, order), impl.GuardsFor(h, order), impl.GuardsAfter(h, order))
				}
			}
		}
	}
}

func TestSearchInvalid(t *testing.T) {
	for name, h := range badHouses() {
		for n := range 9 {
			order := slices.Collect(countTo(n))
			if impl.OrderOk(h, order) || impl.GuardsFor(h, order) != -1 || len(impl.GuardsAfter(h, order)) != 0 {
				t.Errorf("%s: OrderOk(%v) = %v, GuardsFor = %d, GuardsAfter = %v", name, order, impl.OrderOk(h, order), impl.GuardsFor(h, order), impl.GuardsAfter(h, order))
			}
		}
		if len(impl.GuardsAfter(h, []int{1})) != 0 || impl.FewestSearchers(h) != -1 || len(impl.BestOrder(h)) != 0 {
			t.Errorf("%s: GuardsAfter = %v, FewestSearchers = %d, BestOrder = %v", name, impl.GuardsAfter(h, []int{1}), impl.FewestSearchers(h), impl.BestOrder(h))
		}
	}
}

func TestSearchArguments(t *testing.T) {
	checkHousesKept(t, func(h impl.House) {
		numbers := append(slices.Collect(countTo(7)), 0, 77, 78)
		before := slices.Clone(numbers)
		for n := range len(numbers) {
			impl.OrderOk(h, numbers[:n])
			impl.GuardsAfter(h, numbers[:n])
			impl.GuardsFor(h, numbers[:n])
		}
		impl.FewestSearchers(h)
		impl.BestOrder(h)
		if !slices.Equal(numbers, before) {
			t.Errorf("a function changes its list: %v", numbers)
		}
	})
	for _, h := range goodHouses() {
		checkNumbersNew(t, func() []int { return impl.BestOrder(h) })
		for n := range h.Halls {
			order := allHalls(h)
			checkNumbersNew(t, func() []int { return impl.GuardsAfter(h, order[:n]) })
			if !slices.Equal(order, allHalls(h)) {
				t.Errorf("GuardsAfter(%v, %v) shares memory with its list", h, order)
			}
		}
	}
}
