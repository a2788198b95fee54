package tests

import (
	"fmt"
	"math"
	"math/rand"
	"slices"
	"strings"
	"testing"

	"loop.example/g00991/impl"
)

// room takes the coordinates of the corners, X and Y by turns.
func room(numbers ...int) impl.Room {
	var r impl.Room
	for i := 0; i+1 < len(numbers); i += 2 {
		r.Corners = append(r.Corners, at(numbers[i], numbers[i+1]))
	}
	return r
}

// goodRooms have 3 to MaxCorners corners.
func goodRooms() []impl.Room {
	return []impl.Room{
		room(0, 0, 1, 0, 0, 1),
		room(-40, -40, 40, 39, 39, 39),
		room(0, 0, 4, 0, 4, 4, 0, 4),
		room(-40, -40, 40, -40, 40, 40, -40, 40),
		room(0, 0, 5, 1, 1, 1, 1, 5),
		room(0, 0, 8, 0, 8, 6, 4, 2, 0, 6),
		room(0, 0, 6, 0, 6, 2, 2, 2, 2, 6, 0, 6),
		room(-40, -40, 40, -39, 40, 40, 0, -39, -40, 40),
		room(-3, -5, 2, -1, 7, -6, 6, 4, 3, 3, -2, 2),
		room(0, 5, -1, 1, -5, 0, -1, -1, 0, -5, 1, -1, 5, 0),
		room(0, 0, 9, 0, 9, 5, 6, 5, 6, 2, 3, 2, 3, 5, 0, 5),
		room(0, 0, 2, -3, 5, -4, 8, -3, 10, 0, 9, 4, 6, 7, 3, 7, 0, 4),
		// Two walls of this one are on one line, but apart.
		room(0, 0, 8, 0, 8, 8, 0, 8, 0, 4, 4, 4, 4, 6, 6, 6, 6, 2, 0, 2),
		room(0, 0, 1, 4, 2, 0, 3, 4, 4, 0, 5, 9, 4, 5, 3, 9, 2, 5, 1, 9),
	}
}

// manyCorners returns a convex room, but for the number of its corners.
func manyCorners(n int) impl.Room {
	steps := []impl.Point{at(6, 1), at(5, 2), at(3, 3), at(2, 5), at(1, 6), at(-1, 6), at(-2, 5), at(-3, 3), at(-5, 2), at(-6, 1), at(-6, -1), at(-3, -2)}
	p := at(0, -20)
	var r impl.Room
	for _, step := range steps[:n] {
		r.Corners = append(r.Corners, p)
		p = at(p.X+step.X, p.Y+step.Y)
	}
	return r
}

func reversed(r impl.Room) impl.Room {
	corners := slices.Clone(r.Corners)
	slices.Reverse(corners)
	return impl.Room{Corners: corners}
}

// rotations are the same corners from each corner on, whether the room is valid or not.
func rotations(r impl.Room) []impl.Room {
	var list []impl.Room
	for k := range r.Corners {
		var corners []impl.Point
		for i := range r.Corners {
			corners = append(corners, r.Corners[(i+k)%len(r.Corners)])
		}
		list = append(list, impl.Room{Corners: corners})
	}
	return list
}

// tangledRooms have a positive area, no three corners on one line, and walls that meet.
func tangledRooms() map[string]impl.Room {
	return map[string]impl.Room{
		"a corner inside another wall":        room(0, 0, 6, 0, 6, 6, 3, 0, 0, 6),
		"a wall along a piece of another one": room(0, 0, 6, 0, 6, 6, 4, 0, 2, 0, 0, 6),
		"a wall along the end of another one": room(0, 0, 6, 0, 6, 6, 8, 0, 4, 0, 0, 6),
		"a corner twice":                      room(0, 0, 4, 0, 2, 2, 4, 4, 0, 4, 2, 2),
		"a corner twice, twice round":         room(0, 0, 6, 0, 3, 5, 0, 0, 4, -4, 9, 9),
		"walls that cross":                    room(0, 0, 6, 0, 6, 6, 3, -1, 0, 6),
		"walls that cross at the limits":      room(-40, -40, 40, -39, 40, 40, 0, -40, -40, 40),
		"a star with five points":             room(0, 5, -3, -4, 5, 2, -5, 2, 3, -4),
		"twice round":                         room(0, 0, 9, 0, 9, 9, 1, 8, 2, 2, 7, 1, 8, 7, 0, 9),
		"the last wall crosses":               room(0, 0, 9, 3, 9, 9, 0, 9, 8, 1),
	}
}

func badRooms() map[string]impl.Room {
	bad := tangledRooms()
	bad["no corners"] = impl.Room{}
	bad["one corner"] = room(1, 2)
	bad["two corners"] = room(0, 0, 4, 4)
	bad["one corner too many"] = manyCorners(impl.MaxCorners + 1)
	bad["two corners too many"] = manyCorners(impl.MaxCorners + 2)
	bad["two parts of the same size"] = room(0, 0, 4, 4, 4, 0, 0, 4)
	bad["a greater part to the right"] = room(0, 0, 4, 4, 5, 0, 0, 5)
	bad["a line"] = room(0, 0, 2, 2, 4, 4)
	bad["a point"] = room(3, 3, 3, 3, 3, 3)
	bad["a triangle with a straight corner"] = room(0, 0, 2, 0, 4, 0, 0, 4)
	bad["a square with a straight corner"] = room(0, 0, 4, 0, 4, 4, 2, 4, 0, 4)
	bad["a straight corner at the limit"] = room(-40, -40, 40, -40, 40, 0, 40, 40)
	bad["a straight corner that touches a wall"] = room(0, 0, 4, 0, 4, 4, 2, 0)
	bad["a bent room with a straight corner"] = room(0, 0, 6, 0, 6, 2, 2, 2, 2, 3, 2, 6, 0, 6)
	bad["a spike"] = room(0, 0, 4, 0, 8, 0, 4, 0, 4, 4, 0, 4)
	bad["a spike and nothing else"] = room(0, 0, 4, 0, 4, 4, 4, 0)
	bad["a short way back"] = room(0, 0, 8, 0, 4, 0, 4, 4, 0, 4)
	bad["the same corner again"] = room(0, 0, 4, 0, 4, 0, 4, 4, 0, 4)
	bad["two equal corners of three"] = room(0, 0, 4, 0, 4, 0)
	for i, r := range goodRooms() {
		bad[fmt.Sprint("the other order of ", i)] = reversed(r)
		for k := range r.Corners {
			for _, p := range badPoints()[:14] {
				bad[fmt.Sprint("corner ", k, " of ", i, " at ", p)] = withCorner(r, k, p)
			}
		}
	}
	for _, p := range badPoints() {
		bad[fmt.Sprint("a corner at ", p)] = withCorner(room(0, 0, 4, 0, 4, 4, 0, 4), 2, p)
	}
	// These would be rooms, if the coordinate 41 were valid.
	bad["past the limit to the right"] = room(0, 0, 41, 0, 41, 9, 0, 9)
	bad["past the limit above"] = room(0, 0, 9, 0, 9, 41, 0, 41)
	bad["past the limit to the left"] = room(-41, 0, 9, 0, 9, 9)
	bad["past the limit below"] = room(0, -41, 9, 0, 9, 9)
	return bad
}

func withCorner(r impl.Room, k int, p impl.Point) impl.Room {
	corners := slices.Clone(r.Corners)
	corners[k] = p
	return impl.Room{Corners: corners}
}

// isRoom solves for the points that walls have in common, and adds up the areas below the walls; the program does neither.
func isRoom(corners []impl.Point) bool {
	n := len(corners)
	if n < 3 || n > 10 {
		return false
	}
	above := 0
	for k, a := range corners {
		b, c := corners[(k+1)%n], corners[(k+2)%n]
		if (b.X-a.X)*(c.Y-b.Y) == (b.Y-a.Y)*(c.X-b.X) {
			return false
		}
		above += (a.X - b.X) * (a.Y + b.Y)
	}
	for k := range n {
		for i := k + 2; i < n && i < k+n-1; i++ {
			v := impl.Wall{A: corners[k], B: corners[k+1]}
			w := impl.Wall{A: corners[i], B: corners[(i+1)%n]}
			if meetingOf(v, w) != apart {
				return false
			}
		}
	}
	return above > 0
}

func TestRoomLimit(t *testing.T) {
	if impl.MaxCorners != 10 {
		t.Error("MaxCorners differs from the document")
	}
}

func TestRoomOk(t *testing.T) {
	good := goodRooms()
	for n := 3; n <= impl.MaxCorners; n++ {
		good = append(good, manyCorners(n))
	}
	for _, r := range good {
		for _, x := range rotations(r) {
			if !impl.RoomOk(x) {
				t.Errorf("RoomOk(%v) = false", x)
			}
			if impl.RoomOk(reversed(x)) {
				t.Errorf("RoomOk(%v) = true", reversed(x))
			}
		}
	}
}

func TestRoomOkInvalid(t *testing.T) {
	for name, r := range badRooms() {
		if impl.RoomOk(r) {
			t.Errorf("RoomOk of %s = true: %v", name, r)
		}
		for _, x := range rotations(r) {
			if impl.RoomOk(x) {
				t.Errorf("RoomOk of %s = true: %v", name, x)
			}
		}
	}
	for name, r := range tangledRooms() {
		sum, straight := 0, false
		for k, a := range r.Corners {
			b, c := r.Corners[(k+1)%len(r.Corners)], r.Corners[(k+2)%len(r.Corners)]
			sum += a.X*b.Y - a.Y*b.X
			straight = straight || impl.TurnOf(a, b, c) == 0
		}
		if sum <= 0 || straight {
			t.Errorf("%s is not only tangled: %d, %v", name, sum, straight)
		}
	}
}

// All lists of 3 to 6 points of a small square are tried.
func TestRoomOkAll(t *testing.T) {
	for n := 3; n <= 6; n++ {
		rooms := 0
		corners := make([]impl.Point, n)
		lists := 1
		for range n {
			lists *= 9
		}
		for number := range lists {
			for k, rest := 0, number; k < n; k, rest = k+1, rest/9 {
				corners[k] = at(rest%3-1, rest/3%3-1)
			}
			want := isRoom(corners)
			if got := impl.RoomOk(impl.Room{Corners: corners}); got != want {
				t.Fatalf("RoomOk(%v) = %v", corners, got)
			}
			if want {
				rooms++
			}
		}
		if rooms%n != 0 || rooms < 100 {
			t.Errorf("%d of the lists of %d corners are rooms", rooms, n)
		}
	}
}

// One corner of a room is put somewhere else, and then another one.
func TestRoomOkMany(t *testing.T) {
	source := rand.New(rand.NewSource(4))
	counts := map[bool]int{}
	for range 3000 {
		r := goodRooms()[source.Intn(len(goodRooms()))]
		for range 20 {
			k := source.Intn(len(r.Corners))
			near := at(r.Corners[k].X+source.Intn(9)-4, r.Corners[k].Y+source.Intn(9)-4)
			if !impl.PointOk(near) {
				continue
			}
			x := withCorner(r, k, near)
			want := isRoom(x.Corners)
			counts[want]++
			if got := impl.RoomOk(x); got != want {
				t.Fatalf("RoomOk(%v) = %v", x, got)
			}
			if want {
				r = x
			}
		}
	}
	if counts[true] < 5000 || counts[false] < 5000 {
		t.Errorf("too few rooms or too many: %v", counts)
	}
}

func TestWallOf(t *testing.T) {
	for _, r := range goodRooms() {
		n := len(r.Corners)
		for k := -2 * n; k <= 3*n; k++ {
			want := impl.Wall{}
			if k >= 0 && k < n {
				want = impl.Wall{A: r.Corners[k], B: append(r.Corners, r.Corners[0])[k+1]}
			}
			if got := impl.WallOf(r, k); got != want {
				t.Errorf("WallOf(%v, %d) = %v; want %v", r, k, got, want)
			}
		}
		for _, k := range []int{1000, 1001, -1000, -1001, 1 << 32, -1 << 32, math.MaxInt, math.MinInt} {
			if got := impl.WallOf(r, k); got != (impl.Wall{}) {
				t.Errorf("WallOf(%v, %d) = %v", r, k, got)
			}
		}
	}
	for name, r := range badRooms() {
		for k := -3; k <= len(r.Corners)+1; k++ {
			if got := impl.WallOf(r, k); got != (impl.Wall{}) {
				t.Errorf("WallOf of %s, %d = %v", name, k, got)
			}
		}
	}
}

func TestCornerAt(t *testing.T) {
	// CornerAt does not ask whether the room is valid.
	list := append(goodRooms(), room(5, 7), room(5, 7, 6, 8), room(5, 7, 50, 80, -300, 41), manyCorners(11), manyCorners(12),
		room(0, 0, 4, 4, 4, 0, 0, 4), room(1, 1, 1, 1, 2, 2, 3, 3), room(math.MaxInt, math.MinInt, 1, 1))
	for _, r := range list {
		n := len(r.Corners)
		first := 0
		for (first+1000)%n != 0 {
			first++
		}
		// The corner -1000 is the first one, and those that follow are counted round and round.
		for k, i := -1000, first; k <= 1000; k, i = k+1, (i+1)%n {
			if got := impl.CornerAt(r, k); got != r.Corners[i] {
				t.Fatalf("CornerAt(%v, %d) = %v; want %v", r, k, got, r.Corners[i])
			}
		}
	}
}

func TestCornerAtTable(t *testing.T) {
	r := room(1, 2, 9, 3, 4, 8)
	for _, c := range []struct {
		k    int
		want impl.Point
	}{
		{0, at(1, 2)}, {1, at(9, 3)}, {2, at(4, 8)}, {3, at(1, 2)}, {4, at(9, 3)},
		{-1, at(4, 8)}, {-2, at(9, 3)}, {-3, at(1, 2)}, {-4, at(4, 8)},
		{999, at(1, 2)}, {1000, at(9, 3)}, {-999, at(1, 2)}, {-1000, at(4, 8)},
		{1001, at(0, 0)}, {-1001, at(0, 0)}, {1002, at(0, 0)}, {-1002, at(0, 0)},
		{1 << 32, at(0, 0)}, {-1 << 32, at(0, 0)}, {math.MaxInt, at(0, 0)}, {math.MinInt, at(0, 0)},
	} {
		if got := impl.CornerAt(r, c.k); got != c.want {
			t.Errorf("CornerAt(%v, %d) = %v; want %v", r, c.k, got, c.want)
		}
	}
	for _, k := range []int{0, 1, -1, 1000, -1000, 1001, -1001, math.MaxInt, math.MinInt} {
		for _, none := range []impl.Room{{}, {Corners: []impl.Point{}}, {Corners: r.Corners[:0]}} {
			if got := impl.CornerAt(none, k); got != (impl.Point{}) {
				t.Errorf("CornerAt of no corners, %d = %v", k, got)
			}
		}
	}
}

func TestIsCorner(t *testing.T) {
	// IsCorner does not ask whether the room or the point is valid.
	list := append(goodRooms(), room(5, 7), room(5, 7, 6, 8), room(5, 7, 50, 80, -300, 41), manyCorners(11), manyCorners(12),
		room(0, 0, 4, 4, 4, 0, 0, 4), room(math.MaxInt, math.MinInt, 1, 1))
	for _, r := range list {
		for k, p := range r.Corners {
			if got := impl.IsCorner(r, p); got != k {
				t.Errorf("IsCorner(%v, %v) = %d; want %d", r, p, got, k)
			}
		}
		for _, p := range append(somePoints(), badPoints()...) {
			want := -1
			for k, c := range r.Corners {
				if c.X == p.X && c.Y == p.Y {
					want = k
				}
			}
			if got := impl.IsCorner(r, p); got != want {
				t.Errorf("IsCorner(%v, %v) = %d; want %d", r, p, got, want)
			}
		}
	}
	r := room(0, 0, 6, 0, 6, 2, 2, 2, 2, 6, 0, 6)
	// On a wall, inside, outside, with X and Y exchanged, and with one of them alone.
	for _, p := range []impl.Point{at(3, 0), at(1, 1), at(4, 4), at(2, 0), at(0, 2), at(6, 6), at(5, 0), at(-6, 0)} {
		if got := impl.IsCorner(r, p); got != -1 {
			t.Errorf("IsCorner(%v, %v) = %d; want -1", r, p, got)
		}
	}
	if got := impl.IsCorner(impl.Room{}, impl.Point{}); got != -1 {
		t.Errorf("IsCorner of no corners = %d; want -1", got)
	}
}

func TestStartAt(t *testing.T) {
	for _, r := range goodRooms() {
		for k, want := range rotations(r) {
			if got := impl.StartAt(r, k); !slices.Equal(got.Corners, want.Corners) {
				t.Errorf("StartAt(%v, %d) = %v; want %v", r, k, got, want)
			}
		}
		n := len(r.Corners)
		for _, k := range []int{-1, -2, -n, n, n + 1, 2 * n, 1000, -1000, 1 << 32, -1 << 32, math.MaxInt, math.MinInt} {
			if got := impl.StartAt(r, k); len(got.Corners) != 0 {
				t.Errorf("StartAt(%v, %d) = %v", r, k, got)
			}
		}
	}
	for name, r := range badRooms() {
		for k := -3; k <= len(r.Corners)+1; k++ {
			if got := impl.StartAt(r, k); len(got.Corners) != 0 {
				t.Errorf("StartAt of %s, %d = %v", name, k, got)
			}
		}
	}
}

// Promise 4: a room is the same from whichever corner it begins.
func TestRoomFromEachCorner(t *testing.T) {
	for _, r := range goodRooms() {
		n := len(r.Corners)
		for k := range n {
			x := impl.StartAt(r, k)
			if !impl.RoomOk(x) || len(x.Corners) != n {
				t.Fatalf("StartAt(%v, %d) = %v", r, k, x)
			}
			for i := range n {
				if impl.WallOf(x, i) != impl.WallOf(r, (k+i)%n) {
					t.Errorf("wall %d of StartAt(%v, %d) differs", i, r, k)
				}
				if impl.CornerAt(x, i) != impl.CornerAt(r, k+i) || impl.CornerAt(x, i-k) != impl.CornerAt(r, i) {
					t.Errorf("corner %d of StartAt(%v, %d) differs", i, r, k)
				}
				if impl.IsCorner(x, r.Corners[i]) != (i-k+n)%n {
					t.Errorf("IsCorner of StartAt(%v, %d) = %d", r, k, impl.IsCorner(x, r.Corners[i]))
				}
				if got := impl.StartAt(x, i); !slices.Equal(got.Corners, impl.StartAt(r, (k+i)%n).Corners) {
					t.Errorf("StartAt(StartAt(%v, %d), %d) = %v", r, k, i, got)
				}
			}
			if back := impl.StartAt(x, (n-k)%n); impl.RoomText(back) != impl.RoomText(r) {
				t.Errorf("%v begins at %d and then differs: %v", r, k, back)
			}
		}
	}
}

func TestRoomText(t *testing.T) {
	for _, c := range []struct {
		r    impl.Room
		want string
	}{
		{room(0, 0, 4, 0, 4, 4, 0, 4), "0,0 4,0 4,4 0,4"},
		{room(-3, -5, 2, -1, -40, 40), "-3,-5 2,-1 -40,40"},
		{room(0, 0, 8, 0, 8, 8, 0, 8, 0, 4, 4, 4, 4, 6, 6, 6, 6, 2, 0, 2), "0,0 8,0 8,8 0,8 0,4 4,4 4,6 6,6 6,2 0,2"},
	} {
		if got := impl.RoomText(c.r); got != c.want {
			t.Errorf("RoomText(%v) = %q; want %q", c.r, got, c.want)
		}
	}
	for _, r := range goodRooms() {
		for _, x := range rotations(r) {
			var texts []string
			for _, p := range x.Corners {
				texts = append(texts, impl.PointText(p))
			}
			if got := impl.RoomText(x); got != strings.Join(texts, " ") {
				t.Errorf("RoomText(%v) = %q", x, got)
			}
		}
	}
	for name, r := range badRooms() {
		if got := impl.RoomText(r); got != "" {
			t.Errorf("RoomText of %s = %q; want \"\"", name, got)
		}
	}
}

// withSpare returns the room with five more points behind its corners, and all of them.
func withSpare(r impl.Room) (impl.Room, []impl.Point) {
	n := len(r.Corners)
	all := append(slices.Clone(r.Corners), at(71, 72), at(73, 74), at(75, 76), at(77, 78), at(79, 80))
	return impl.Room{Corners: all[:n]}, all
}

func TestRoomArguments(t *testing.T) {
	list := goodRooms()
	for _, r := range badRooms() {
		list = append(list, r)
	}
	for _, original := range list {
		r, all := withSpare(original)
		before := slices.Clone(all)
		impl.RoomOk(r)
		impl.RoomText(r)
		for k := -2; k <= len(r.Corners)+1; k++ {
			impl.WallOf(r, k)
			impl.CornerAt(r, k)
			impl.StartAt(r, k)
			impl.IsCorner(r, impl.CornerAt(r, k))
		}
		if !slices.Equal(all, before) {
			t.Fatalf("a function changes its room: %v; was %v", all, before)
		}
	}
}

func TestStartAtIsNew(t *testing.T) {
	for _, original := range goodRooms() {
		for k, want := range rotations(original) {
			r, all := withSpare(original)
			before := slices.Clone(all)
			first, second := impl.StartAt(r, k), impl.StartAt(r, k)
			spare := first.Corners[:cap(first.Corners)]
			for i := range spare {
				spare[i] = at(99, -99)
			}
			if !slices.Equal(all, before) {
				t.Fatalf("StartAt(%v, %d) shares memory with its room", original, k)
			}
			for i := range all {
				all[i] = at(-99, 99)
			}
			if !slices.Equal(second.Corners, want.Corners) {
				t.Fatalf("StartAt(%v, %d) shares memory with its room or with another result", original, k)
			}
		}
	}
}
