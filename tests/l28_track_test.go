package tests

import (
	"math"
	"math/rand"
	"slices"
	"testing"

	"loop.example/g00991/impl"
)

// sightings takes the moment, X and Y by turns.
func sightings(numbers ...int) []impl.Sighting {
	var list []impl.Sighting
	for i := 0; i+2 < len(numbers); i += 3 {
		list = append(list, impl.Sighting{Moment: numbers[i], At: at(numbers[i+1], numbers[i+2])})
	}
	return list
}

func badSightings() []impl.Sighting {
	var bad []impl.Sighting
	for _, n := range append(badNumbers(), -1, 1001, -1000) {
		if n < 0 || n > 1000 {
			bad = append(bad, impl.Sighting{Moment: n, At: at(1, 2)}, impl.Sighting{Moment: n, At: at(n, n)})
		}
	}
	for _, p := range badPoints() {
		bad = append(bad, impl.Sighting{Moment: 1, At: p}, impl.Sighting{Moment: 1000, At: p})
	}
	return bad
}

func isSighting(s impl.Sighting) bool {
	return s.Moment == min(max(s.Moment, 0), 1000) && isValid(s.At)
}

// isWithin compares ways; the program compares their squares.
func isWithin(a impl.Sighting, b impl.Sighting, speed int) bool {
	if !isSighting(a) || !isSighting(b) || speed != min(max(speed, 1), 20) || b.Moment <= a.Moment {
		return false
	}
	way := math.Hypot(float64(b.At.X-a.At.X), float64(b.At.Y-a.At.Y))
	return way/float64(speed) <= float64(b.Moment-a.Moment)+1e-9
}

func isTrack(list []impl.Sighting, speed int) bool {
	if len(list) == 1 {
		return isSighting(list[0]) && speed == min(max(speed, 1), 20)
	}
	for k := range list {
		if k > 0 && !isWithin(list[k-1], list[k], speed) {
			return false
		}
	}
	return true
}

// chosen returns the sightings whose bits are set, in the order of their moments.
func chosen(list []impl.Sighting, set int) []impl.Sighting {
	var some []impl.Sighting
	for k, s := range list {
		if set>>k&1 == 1 {
			some = append(some, s)
		}
	}
	slices.SortStableFunc(some, func(a impl.Sighting, b impl.Sighting) int { return a.Moment - b.Moment })
	return some
}

// tracksIn divides each set of sightings into a track and the rest; the program joins sightings one by one.
func tracksIn(list []impl.Sighting, speed int) int {
	fewest := make([]int, 1<<len(list))
	for set := 1; set < len(fewest); set++ {
		fewest[set] = math.MaxInt
		for track := set; track > 0; track = (track - 1) & set {
			if isTrack(chosen(list, track), speed) {
				fewest[set] = min(fewest[set], 1+fewest[set&^track])
			}
		}
	}
	return fewest[len(fewest)-1]
}

// apartIn looks at all sets of sightings.
func apartIn(list []impl.Sighting, speed int) int {
	most := 0
	for set := range 1 << len(list) {
		some := chosen(list, set)
		areApart := true
		for k := range some {
			for i := range k {
				areApart = areApart && !isWithin(some[i], some[k], speed) && !isWithin(some[k], some[i], speed)
			}
		}
		if areApart {
			most = max(most, len(some))
		}
	}
	return most
}

func checkTracks(t *testing.T, name string, list []impl.Sighting, speed int, want int) {
	t.Helper()
	if got := impl.FewestTracks(list, speed); got != want {
		t.Fatalf("%s: FewestTracks(%v, %d) = %d; want %d", name, list, speed, got, want)
	}
	if got := impl.MostApart(list, speed); got != want {
		t.Fatalf("%s: MostApart(%v, %d) = %d; want %d", name, list, speed, got, want)
	}
}

func TestSightingOk(t *testing.T) {
	for _, s := range sightings(0, 0, 0, 1000, 0, 0, 0, 40, -40, 1000, -40, 40, 17, 3, 5) {
		if !impl.SightingOk(s) || !isSighting(s) {
			t.Errorf("SightingOk(%v) = false", s)
		}
	}
	for _, s := range badSightings() {
		if impl.SightingOk(s) || isSighting(s) {
			t.Errorf("SightingOk(%v) = true", s)
		}
	}
}

func TestCanBeSame(t *testing.T) {
	for _, c := range []struct {
		name  string
		pair  []impl.Sighting
		speed int
		want  bool
	}{
		{"near enough", sightings(0, 0, 0, 1, 1, 1), 2, true},
		{"exactly as far", sightings(0, 0, 0, 1, 3, 0), 3, true},
		{"exactly as far, across", sightings(5, 1, 1, 6, 4, 5), 5, true},
		{"exactly as far, in two moments", sightings(5, 1, 1, 7, 7, 9), 5, true},
		{"a bit too far", sightings(0, 0, 0, 1, 3, 0), 2, false},
		{"a bit too far, across", sightings(5, 1, 1, 6, 4, 6), 5, false},
		{"too far by one step beside", sightings(0, 0, 0, 1, 5, 1), 5, false},
		{"the same place later", sightings(3, 2, 2, 4, 2, 2), 1, true},
		{"the same place and moment", sightings(3, 2, 2, 3, 2, 2), 20, false},
		{"the same moment elsewhere", sightings(3, 2, 2, 3, 3, 2), 20, false},
		{"backwards", sightings(1, 3, 0, 0, 0, 0), 3, false},
		{"backwards, the same place", sightings(1, 3, 0, 0, 3, 0), 3, false},
		{"speed 1", sightings(0, 0, 0, 4, 0, 4), 1, true},
		{"speed 1, too far", sightings(0, 0, 0, 4, 0, 5), 1, false},
		{"speed 1, too far across", sightings(0, 0, 0, 1, 1, 1), 1, false},
		{"speed 20", sightings(0, 0, 0, 1, 20, 0), 20, true},
		{"speed 20, too far", sightings(0, 0, 0, 1, 20, 1), 20, false},
		{"speed 21", sightings(0, 0, 0, 1, 1, 0), 21, false},
		{"speed 0", sightings(0, 0, 0, 1, 0, 0), 0, false},
		{"speed below 0", sightings(0, 0, 0, 1, 1, 0), -5, false},
		{"the greatest speed", sightings(0, 0, 0, 1, 1, 0), math.MaxInt, false},
		{"the least speed", sightings(0, 0, 0, 1, 1, 0), math.MinInt, false},
		{"a speed in more bits", sightings(0, 0, 0, 1, 1, 0), 1<<32 + 5, false},
		{"the longest way", sightings(0, -40, -40, 6, 40, 40), 19, true},
		{"the longest way, a moment less", sightings(0, -40, -40, 5, 40, 40), 19, false},
		{"the longest time", sightings(0, -40, -40, 1000, 40, 40), 20, true},
	} {
		if got := impl.CanBeSame(c.pair[0], c.pair[1], c.speed); got != c.want || isWithin(c.pair[0], c.pair[1], c.speed) != c.want {
			t.Errorf("%s: CanBeSame(%v, %d) = %v", c.name, c.pair, c.speed, got)
		}
	}
}

// someSightings have moments from 0 to last, and coordinates up to side.
func someSightings(source *rand.Rand, count int, last int, side int) []impl.Sighting {
	var list []impl.Sighting
	for range count {
		list = append(list, impl.Sighting{Moment: source.Intn(last + 1), At: at(source.Intn(2*side+1)-side, source.Intn(2*side+1)-side)})
	}
	return list
}

func TestCanBeSameMany(t *testing.T) {
	source, counts := rand.New(rand.NewSource(131)), map[bool]int{}
	for i := range 20000 {
		pair := someSightings(source, 2, 9, 3+i%38)
		speed := source.Intn(23) - 1
		want := isWithin(pair[0], pair[1], speed)
		counts[want]++
		if got := impl.CanBeSame(pair[0], pair[1], speed); got != want {
			t.Fatalf("CanBeSame(%v, %d) = %v", pair, speed, got)
		}
	}
	if counts[true] < 2000 || counts[false] < 2000 {
		t.Errorf("too few sightings can be the same, or not: %v", counts)
	}
}

func TestTrackOk(t *testing.T) {
	row := sightings(0, 0, 0, 1, 3, 0, 2, 0, 1, 4, 0, 1)
	var long []impl.Sighting
	for k := range 1001 {
		long = append(long, impl.Sighting{Moment: k, At: at(k%3, 0)})
	}
	for _, c := range []struct {
		name  string
		list  []impl.Sighting
		speed int
		want  bool
	}{
		{"no sightings", nil, 4, true},
		{"no sightings, but memory", []impl.Sighting{}, 4, true},
		{"no sightings, speed 0", nil, 0, true},
		{"no sightings, speed 21", nil, 21, true},
		{"no sightings, the least speed", nil, math.MinInt, true},
		{"no sightings, the greatest speed", nil, math.MaxInt, true},
		{"one sighting", sightings(3, 1, 1), 4, true},
		{"one sighting, speed 1", sightings(0, 1, 1), 1, true},
		{"one sighting, speed 20", sightings(1000, 1, 1), 20, true},
		{"one sighting, speed 0", sightings(3, 1, 1), 0, false},
		{"one sighting, speed 21", sightings(3, 1, 1), 21, false},
		{"one sighting, the least speed", sightings(3, 1, 1), math.MinInt, false},
		{"one sighting, the greatest speed", sightings(3, 1, 1), math.MaxInt, false},
		{"one sighting that is not valid", sightings(1001, 1, 1), 4, false},
		{"one sighting at no valid point", sightings(1, 41, 1), 4, false},
		{"a track", row, 4, true},
		{"too slow", row, 2, false},
		{"too slow for the first step", row[:2], 2, false},
		{"too slow for the second step alone", sightings(0, 0, 0, 1, 3, 0, 2, 0, 1), 3, false},
		{"the last step backwards", sightings(0, 0, 0, 2, 0, 0, 1, 0, 0), 4, false},
		{"the first step backwards", sightings(1, 0, 0, 0, 0, 0, 2, 0, 0), 4, false},
		{"the same moment at the end", sightings(0, 0, 0, 2, 0, 0, 2, 0, 0), 4, false},
		{"a good list with speed 21", row, 21, false},
		{"a good list with speed 0", row, 0, false},
		{"the last one is not valid", append(slices.Clone(row), sightings(5, 0, 41)...), 4, false},
		{"the first one is not valid", append(sightings(-1, 0, 0), row...), 4, false},
		{"1001 sightings", long, 2, true},
		{"1001 sightings, too slow", long, 1, false},
	} {
		if got := impl.TrackOk(c.list, c.speed); got != c.want || isTrack(c.list, c.speed) != c.want {
			t.Errorf("%s: TrackOk(%v, %d) = %v", c.name, c.list, c.speed, got)
		}
	}
}

func TestTrackOkMany(t *testing.T) {
	source, counts := rand.New(rand.NewSource(132)), map[bool]int{}
	for range 10000 {
		list, speed := someSightings(source, source.Intn(5), 40, 6), 1+source.Intn(20)
		if source.Intn(2) == 0 {
			list = chosen(list, 1<<len(list)-1)
		}
		want := isTrack(list, speed)
		counts[want]++
		if got := impl.TrackOk(list, speed); got != want {
			t.Fatalf("TrackOk(%v, %d) = %v", list, speed, got)
		}
	}
	if counts[true] < 2000 || counts[false] < 2000 {
		t.Errorf("too few lists are tracks, or not: %v", counts)
	}
}

func TestFewestTracks(t *testing.T) {
	row := sightings(0, 0, 0, 1, 3, 0, 2, 0, 1)
	for _, c := range []struct {
		name  string
		list  []impl.Sighting
		speed int
		want  int
	}{
		{"no sightings", nil, 4, 0},
		{"no sightings, but memory", []impl.Sighting{}, 4, 0},
		{"one sighting", sightings(3, 1, 1), 4, 1},
		{"a track", row, 4, 1},
		{"two tracks", row, 2, 2},
		{"a track, out of order", sightings(2, 0, 1, 0, 0, 0, 1, 3, 0), 4, 1},
		{"a track, backwards", sightings(2, 0, 1, 1, 3, 0, 0, 0, 0), 4, 1},
		{"two tracks, out of order", sightings(2, 0, 1, 0, 0, 0, 1, 3, 0), 2, 2},
		{"the same moment", sightings(3, 1, 1, 3, 2, 1), 20, 2},
		{"the same moment and point", sightings(3, 1, 1, 3, 1, 1), 20, 2},
		{"three at the same moment and point", sightings(3, 1, 1, 3, 1, 1, 3, 1, 1), 1, 3},
		{"two at each of two moments", sightings(3, 1, 1, 3, 1, 1, 4, 1, 1, 4, 1, 1), 1, 2},
		{"two at one moment, one before, one behind", sightings(3, 1, 1, 4, 1, 1, 4, 1, 1, 5, 1, 1), 1, 2},
		{"exactly as far", sightings(0, 0, 0, 2, 6, 8), 5, 1},
		{"a bit too far", sightings(0, 0, 0, 2, 6, 9), 5, 2},
		{"far apart, at the same time", sightings(0, 0, 0, 0, 40, 0, 1, 0, 1, 1, 40, 1), 1, 2},
		// The first sighting can be joined to both behind it, the second one to one of them alone.
		{"the first choice is wrong", sightings(0, 0, 0, 0, 4, 0, 1, 2, 0, 1, -2, 0), 2, 2},
		{"the first choice is wrong twice", sightings(0, 0, 0, 0, 4, 0, 0, 8, 0, 1, 6, 0, 1, 2, 0, 1, -2, 0), 2, 3},
		{"the first choice is wrong, three in a row", sightings(0, 0, 0, 0, 4, 0, 1, 2, 0, 1, -2, 0, 2, 4, 0, 2, 0, 0), 2, 2},
		{"one in the middle of many", sightings(0, -5, 0, 0, 0, 0, 0, 5, 0, 5, 0, 0, 10, -5, 0, 10, 0, 0, 10, 5, 0), 1, 3},
		{"eight in a row", sightings(7, 0, 7, 6, 0, 6, 5, 0, 5, 4, 0, 4, 3, 0, 3, 2, 0, 2, 1, 0, 1, 0, 0, 0), 1, 1},
		{"eight at one moment", slices.Repeat(sightings(0, 1, 1), 8), 1, 8},
		{"four pairs", sightings(0, 0, 0, 0, 10, 0, 0, 20, 0, 0, 30, 0, 1, 30, 0, 1, 20, 0, 1, 10, 0, 1, 0, 0), 1, 4},
		{"speed 1", sightings(0, 0, 0, 1, 1, 0), 1, 1},
		{"speed 20", sightings(0, 0, 0, 1, 20, 0), 20, 1},
		{"at the limits", sightings(0, -40, -40, 1000, 40, 40), 1, 1},
		{"speed 0", row, 0, -1},
		{"speed 21", row, 21, -1},
		{"speed below 0", row, -4, -1},
		{"the greatest speed", row, math.MaxInt, -1},
		{"the least speed", row, math.MinInt, -1},
		{"no sightings, speed 0", nil, 0, -1},
		{"no sightings, speed 21", nil, 21, -1},
		{"one sighting, speed 0", sightings(3, 1, 1), 0, -1},
		{"nine sightings", slices.Repeat(sightings(0, 1, 1), 9), 1, -1},
		{"nine in a row", sightings(8, 0, 8, 7, 0, 7, 6, 0, 6, 5, 0, 5, 4, 0, 4, 3, 0, 3, 2, 0, 2, 1, 0, 1, 0, 0, 0), 1, -1},
		{"many sightings", slices.Repeat(sightings(0, 1, 1), 5000), 1, -1},
		{"one that is not valid", sightings(1001, 1, 1), 4, -1},
		{"the last one is not valid", append(slices.Clone(row), sightings(3, 0, -41)...), 4, -1},
		{"the first one is not valid", append(sightings(-1, 0, 0), row...), 4, -1},
	} {
		checkTracks(t, c.name, c.list, c.speed, c.want)
		if c.want >= 0 && (tracksIn(c.list, c.speed) != c.want || apartIn(c.list, c.speed) != c.want) {
			t.Errorf("%s: %v should have %d tracks; want %d", c.name, c.list, tracksIn(c.list, c.speed), c.want)
		}
	}
}

// Promise 28: there are as few tracks as there are sightings that cannot be the same.
func TestFewestTracksMany(t *testing.T) {
	source, counts := rand.New(rand.NewSource(133)), map[int]int{}
	for i := range 500 {
		n := source.Intn(9)
		list, speed := someSightings(source, n, []int{3, 8, 20}[i%3], []int{4, 12, 40}[i/3%3]), 1+source.Intn(20)
		if i%4 > 0 {
			speed = 1 + source.Intn(4)
		}
		want := tracksIn(list, speed)
		if apartIn(list, speed) != want {
			t.Fatalf("%v has %d tracks, but %d are apart", list, want, apartIn(list, speed))
		}
		checkTracks(t, "at random", list, speed, want)
		slices.Reverse(list)
		checkTracks(t, "at random, backwards", list, speed, want)
		counts[want]++
	}
	for n := 1; n <= 6; n++ {
		if counts[n] < 20 {
			t.Errorf("only %d lists have %d tracks", counts[n], n)
		}
	}
}

func TestTracksInvalid(t *testing.T) {
	for _, bad := range badSightings() {
		for _, good := range [][]impl.Sighting{nil, sightings(3, 1, 1), sightings(0, 0, 0, 1, 3, 0, 2, 0, 1), sightings(0, 1, 2, 1000, 1, 2)} {
			for k := range len(good) + 1 {
				list := slices.Insert(slices.Clone(good), k, bad)
				checkTracks(t, "with a bad one", list, 4, -1)
				if impl.TrackOk(list, 20) {
					t.Errorf("TrackOk(%v) = true", list)
				}
			}
			for _, s := range good {
				if impl.CanBeSame(s, bad, 20) || impl.CanBeSame(bad, s, 20) || impl.CanBeSame(bad, bad, 20) {
					t.Errorf("CanBeSame with %v and %v = true", s, bad)
				}
			}
		}
	}
	row := sightings(0, 0, 0, 1, 1, 0)
	for _, speed := range append(badNumbers(), 0, -1, 21, 22) {
		checkTracks(t, "a bad speed", row, speed, -1)
		checkTracks(t, "a bad speed", nil, speed, -1)
		if impl.CanBeSame(row[0], row[1], speed) || impl.TrackOk(row, speed) || impl.TrackOk(row[:1], speed) || !impl.TrackOk(nil, speed) {
			t.Errorf("CanBeSame with the speed %d = %v", speed, impl.CanBeSame(row[0], row[1], speed))
		}
	}
}

func TestTracksArguments(t *testing.T) {
	all := sightings(2, 0, 1, 0, 0, 0, 1, 3, 0, 9, 9, 9, 4, 0, 0, 3, 3, 3)
	before := slices.Clone(all)
	for n := range len(all) {
		impl.TrackOk(all[:n], 4)
		impl.FewestTracks(all[:n], 4)
		impl.MostApart(all[:n], 4)
	}
	if !slices.Equal(all, before) {
		t.Errorf("a function changes its sightings: %v", all)
	}
}
