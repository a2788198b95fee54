package tests

import (
	"math"
	"slices"
	"testing"

	"loop.example/g00991/impl"
)

// coloredBy goes through all triangles again and again and colors what only one color is left for; the program goes back once.
func coloredBy(r impl.Room, list []impl.Triangle) []int {
	colors := slices.Repeat([]int{-1}, len(r.Corners))
	last := list[len(list)-1]
	colors[last.A], colors[last.B], colors[last.C] = 0, 1, 2
	for slices.Contains(colors, -1) {
		for _, t := range list {
			for _, k := range [][3]int{{t.A, t.B, t.C}, {t.B, t.C, t.A}, {t.C, t.A, t.B}} {
				if colors[k[0]] < 0 && colors[k[1]] >= 0 && colors[k[2]] >= 0 {
					for color := range 3 {
						if color != colors[k[1]] && color != colors[k[2]] {
							colors[k[0]] = color
						}
					}
				}
			}
		}
	}
	return colors
}

func countsOf(colors []int) []int {
	counts := []int{0, 0, 0}
	for _, color := range colors {
		counts[color]++
	}
	return counts
}

func rarestOf(counts []int) int {
	switch {
	case counts[0] <= counts[1] && counts[0] <= counts[2]:
		return 0
	case counts[1] <= counts[2]:
		return 1
	}
	return 2
}

func TestColors(t *testing.T) {
	for _, c := range []struct {
		name   string
		r      impl.Room
		colors []int
		counts []int
		rarest int
	}{
		{"a triangle", room(0, 0, 4, 0, 0, 4), []int{0, 1, 2}, []int{1, 1, 1}, 0},
		{"a triangle from another corner", room(0, 4, 0, 0, 4, 0), []int{0, 1, 2}, []int{1, 1, 1}, 0},
		{"a square", room(0, 0, 4, 0, 4, 4, 0, 4), []int{1, 0, 1, 2}, []int{1, 2, 1}, 0},
		{"an arrow", room(0, 0, 5, 1, 1, 1, 1, 5), []int{0, 2, 1, 2}, []int{1, 1, 2}, 0},
		{"five corners that stick out", manyCorners(5), []int{0, 1, 0, 1, 2}, []int{2, 2, 1}, 2},
		{"a notch", room(0, 0, 8, 0, 8, 6, 4, 2, 0, 6), []int{0, 2, 0, 1, 2}, []int{2, 1, 2}, 1},
		{"a bent room", room(0, 0, 6, 0, 6, 2, 2, 2, 2, 6, 0, 6), []int{1, 0, 2, 0, 1, 2}, []int{2, 2, 2}, 0},
		{"an end on one line", room(0, 0, 9, 0, 6, 3, 5, 7, 3, 6), []int{1, 2, 0, 1, 2}, []int{1, 2, 2}, 0},
		{"on one line behind a cut", lean(), []int{1, 0, 2, 1, 0, 1, 2}, []int{2, 3, 2}, 0},
		{"nine corners that stick out", manyCorners(9), []int{0, 1, 0, 1, 0, 1, 0, 1, 2}, []int{4, 4, 1}, 2},
		{"a comb", comb(), []int{0, 1, 0, 2, 1, 0, 2, 1, 2}, []int{3, 3, 3}, 0},
	} {
		if got := impl.ColorsOf(c.r); !slices.Equal(got, c.colors) {
			t.Errorf("%s: ColorsOf(%v) = %v; want %v", c.name, c.r, got, c.colors)
		}
		if got := impl.ColorCounts(c.r); !slices.Equal(got, c.counts) {
			t.Errorf("%s: ColorCounts(%v) = %v; want %v", c.name, c.r, got, c.counts)
		}
		if got := impl.RarestColor(c.r); got != c.rarest {
			t.Errorf("%s: RarestColor(%v) = %d; want %d", c.name, c.r, got, c.rarest)
		}
		if !impl.AreColors(c.r, c.colors) {
			t.Errorf("%s: AreColors(%v, %v) = false", c.name, c.r, c.colors)
		}
	}
}

// Promise 12: three colors suffice.
func TestColorsMany(t *testing.T) {
	rarest := map[int]int{}
	rooms := append(cutRooms(), movedRooms(23, 300)...)
	for n := 3; n <= 5; n++ {
		rooms = append(rooms, smallRooms(n)...)
	}
	for _, r := range rooms {
		for _, x := range append(rotations(r), mirrored(r)) {
			list := dividedBy(x)
			want := coloredBy(x, list)
			if got := impl.ColorsOf(x); !slices.Equal(got, want) || !impl.AreColors(x, got) {
				t.Fatalf("ColorsOf(%v) = %v; want %v", x, got, want)
			}
			if got := impl.ColorCounts(x); !slices.Equal(got, countsOf(want)) {
				t.Fatalf("ColorCounts(%v) = %v; want %v", x, got, countsOf(want))
			}
			if got := impl.RarestColor(x); got != rarestOf(countsOf(want)) {
				t.Fatalf("RarestColor(%v) = %d; want %d", x, got, rarestOf(countsOf(want)))
			}
			for _, c := range list {
				if want[c.A]+want[c.B]+want[c.C] != 3 || want[c.A] == want[c.B] {
					t.Fatalf("%v has the colors %v", c, want)
				}
			}
			rarest[impl.RarestColor(x)]++
		}
	}
	for color := range 3 {
		if rarest[color] < 20 {
			t.Errorf("the color %d is rarely the rarest: %v", color, rarest)
		}
	}
}

func checkColors(t *testing.T, r impl.Room, colors []int, want bool) {
	t.Helper()
	if got := impl.AreColors(r, colors); got != want {
		t.Fatalf("AreColors(%v, %v) = %v", r, colors, got)
	}
}

// All lists of numbers from -1 to 3 are tried.
func TestAreColorsAll(t *testing.T) {
	for _, r := range []impl.Room{room(0, 0, 4, 0, 0, 4), room(0, 0, 4, 0, 4, 4, 0, 4), room(0, 0, 5, 1, 1, 1, 1, 5), manyCorners(5), room(0, 0, 9, 0, 6, 3, 5, 7, 3, 6), room(0, 0, 6, 0, 6, 2, 2, 2, 2, 6, 0, 6)} {
		triangles, good := dividedBy(r), 0
		for n := range len(r.Corners) + 2 {
			lists := 1
			for range n {
				lists *= 5
			}
			colors := make([]int, n)
			for number := range lists {
				want := n == len(r.Corners)
				for k, rest := 0, number; k < n; k, rest = k+1, rest/5 {
					colors[k] = rest%5 - 1
					want = want && colors[k] >= 0 && colors[k] <= 2
				}
				for _, x := range triangles {
					want = want && colors[x.A] != colors[x.B] && colors[x.B] != colors[x.C] && colors[x.C] != colors[x.A]
				}
				if want {
					good++
				}
				checkColors(t, r, colors, want)
			}
		}
		// The colors can be exchanged, and nothing else.
		if good != 6 {
			t.Errorf("%d lists are colors of %v; want 6", good, r)
		}
	}
}

func TestAreColors(t *testing.T) {
	for _, r := range cutRooms() {
		colors, n := coloredBy(r, dividedBy(r)), len(r.Corners)
		for _, order := range [][3]int{{0, 1, 2}, {0, 2, 1}, {1, 0, 2}, {1, 2, 0}, {2, 0, 1}, {2, 1, 0}} {
			var exchanged []int
			for _, color := range colors {
				exchanged = append(exchanged, order[color])
			}
			checkColors(t, r, exchanged, true)
			// One too few, one too many, and none at all.
			checkColors(t, r, exchanged[:n-1], false)
			checkColors(t, r, exchanged[1:], false)
			for color := range 3 {
				checkColors(t, r, append(slices.Clone(exchanged), color), false)
			}
			checkColors(t, r, slices.Concat(exchanged, exchanged), false)
			// Each corner is in a triangle whose other corners have both other colors.
			for k, color := range exchanged {
				for _, other := range []int{(color + 1) % 3, (color + 2) % 3, -1, -2, -3, 3, 4, 5, color - 3, color + 3, math.MaxInt, math.MinInt, 1 << 32, -1 << 32} {
					changed := slices.Clone(exchanged)
					changed[k] = other
					checkColors(t, r, changed, false)
				}
			}
		}
		checkColors(t, r, nil, false)
		checkColors(t, r, []int{}, false)
		checkColors(t, r, slices.Repeat([]int{0}, n), false)
	}
}

func TestColorInvalid(t *testing.T) {
	for name, r := range badRooms() {
		if impl.RarestColor(r) != -1 || len(impl.ColorsOf(r)) != 0 || len(impl.ColorCounts(r)) != 0 {
			t.Errorf("%s has the colors %v, as many as %v, and %d is the rarest", name, impl.ColorsOf(r), impl.ColorCounts(r), impl.RarestColor(r))
		}
		for _, colors := range [][]int{nil, {}, {0}, {0, 1}, {0, 1, 2}, {0, 1, 2, 1}, {1, 0, 1, 2}, {0, 1, 2, 0, 1}, {0, 1, 0, 1, 2}, slices.Repeat([]int{0, 1, 2}, 5)[:len(r.Corners)]} {
			checkColors(t, r, colors, false)
		}
	}
}

func TestColorArguments(t *testing.T) {
	checkRoomsKept(t, func(r impl.Room) {
		impl.ColorsOf(r)
		impl.ColorCounts(r)
		impl.RarestColor(r)
		colors := append(slices.Repeat([]int{0, 1, 2}, 5)[:len(r.Corners)], 77, 78)
		before := slices.Clone(colors)
		impl.AreColors(r, colors[:len(r.Corners)])
		if !slices.Equal(colors, before) {
			t.Fatalf("AreColors changes its list: %v; was %v", colors, before)
		}
	})
	checkNew(t, -99, impl.ColorsOf)
	checkNew(t, -99, impl.ColorCounts)
}
