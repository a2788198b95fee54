package tests

import (
	"math"
	"math/rand"
	"slices"
	"testing"

	"loop.example/g00991/impl"
)

// outside are numbers below and above a range, the nearest ones and far ones, up to the least and the greatest int.
func outside(low int, high int) []int {
	list := []int{low - 1, low - 2, high + 1, high + 2}
	for _, n := range append(badNumbers(), 1<<32+low, 1<<32+high, -1<<32+high) {
		if n < low || n > high {
			list = append(list, n)
		}
	}
	return list
}

// zones takes From, To and Kinds by turns.
func zones(numbers ...int) []impl.Zone {
	var list []impl.Zone
	for i := 0; i+2 < len(numbers); i += 3 {
		list = append(list, impl.Zone{From: numbers[i], To: numbers[i+1], Kinds: numbers[i+2]})
	}
	return list
}

// reports takes the zone, the kind and the moment by turns.
func reports(numbers ...int) []impl.Report {
	var list []impl.Report
	for i := 0; i+2 < len(numbers); i += 3 {
		list = append(list, impl.Report{Zone: numbers[i], Kind: numbers[i+1], Moment: numbers[i+2]})
	}
	return list
}

// reportsAt are reports of doors in the zone 0.
func reportsAt(moments ...int) []impl.Report {
	var list []impl.Report
	for _, moment := range moments {
		list = append(list, impl.Report{Kind: impl.ReDoor, Moment: moment})
	}
	return list
}

func badZones() []impl.Zone {
	bad := zones(6, 5, 14, 10000, 0, 14, 1, 0, 15)
	for _, n := range outside(0, 10000) {
		bad = append(bad, zones(n, 10000, 14, 0, n, 14, n, n, 14)...)
	}
	for _, n := range outside(0, 15) {
		bad = append(bad, zones(0, 10000, n, 5, 5, n)...)
	}
	return bad
}

func isZone(z impl.Zone) bool {
	isMoment := func(n int) bool { return n == min(max(n, 0), 10000) }
	return isMoment(z.From) && isMoment(z.To) && max(z.From, z.To) == z.To && z.Kinds == min(max(z.Kinds, 0), 15)
}

// doesRaise goes through the moments and the kinds of a zone; the program compares them.
func doesRaise(list []impl.Zone, r impl.Report) bool {
	for k, z := range list {
		if k != r.Zone || !isZone(z) {
			continue
		}
		kinds := z.Kinds / 2
		for kind := 1; kind <= 3; kind++ {
			for moment := z.From; moment < z.To && kinds%2 == 1; moment++ {
				if r.Kind == kind && r.Moment == moment {
					return true
				}
			}
			kinds /= 2
		}
	}
	return false
}

func alarmsIn(list []impl.Zone, all []impl.Report) []int {
	var alarms []int
	for k, r := range all {
		if doesRaise(list, r) {
			alarms = append(alarms, k)
		}
	}
	return alarms
}

// calmIn looks behind each alarm for the next moment of an alarm.
func calmIn(list []impl.Zone, all []impl.Report) int {
	longest := 0
	if len(all) > 40 {
		return 0
	}
	alarms := alarmsIn(list, all)
	for _, k := range alarms {
		next := math.MaxInt
		for _, i := range alarms {
			if all[i].Moment > all[k].Moment {
				next = min(next, all[i].Moment)
			}
		}
		if next < math.MaxInt {
			longest = max(longest, next-all[k].Moment)
		}
	}
	return longest
}

// isNear reports whether one of the reports of the list is of the same zone and at most pause moments away.
func isNear(all []impl.Report, list []int, k int, pause int) bool {
	for _, i := range list {
		if all[i].Zone == all[k].Zone && max(all[i].Moment, all[k].Moment)-min(all[i].Moment, all[k].Moment) <= pause {
			return true
		}
	}
	return false
}

func TestAlarmKinds(t *testing.T) {
	if impl.ReDoor != 1 || impl.ReMotion != 2 || impl.ReGlass != 3 {
		t.Error("a kind of chapter 29 differs from the document")
	}
}

func TestZoneOk(t *testing.T) {
	for _, z := range zones(0, 0, 0, 0, 0, 15, 5, 5, 14, 4, 5, 1, 0, 10000, 15, 10000, 10000, 15, 9999, 10000, 2, 0, 1, 8) {
		if !impl.ZoneOk(z) || !isZone(z) {
			t.Errorf("ZoneOk(%v) = false", z)
		}
	}
	for _, z := range badZones() {
		if impl.ZoneOk(z) || isZone(z) {
			t.Errorf("ZoneOk(%v) = true", z)
		}
	}
}

func TestRaises(t *testing.T) {
	three := zones(5, 10, 2, 0, 10000, 12, 7, 7, 15)
	for _, c := range []struct {
		name  string
		zones []impl.Zone
		r     impl.Report
		want  bool
	}{
		{"a door", three, impl.Report{Zone: 0, Kind: impl.ReDoor, Moment: 7}, true},
		{"at From", three, impl.Report{Zone: 0, Kind: impl.ReDoor, Moment: 5}, true},
		{"before From", three, impl.Report{Zone: 0, Kind: impl.ReDoor, Moment: 4}, false},
		{"at To - 1", three, impl.Report{Zone: 0, Kind: impl.ReDoor, Moment: 9}, true},
		{"at To", three, impl.Report{Zone: 0, Kind: impl.ReDoor, Moment: 10}, false},
		{"a kind that is not asked for", three, impl.Report{Zone: 0, Kind: impl.ReMotion, Moment: 7}, false},
		{"another zone", three, impl.Report{Zone: 1, Kind: impl.ReMotion, Moment: 7}, true},
		{"glass", three, impl.Report{Zone: 1, Kind: impl.ReGlass, Moment: 7}, true},
		{"a door, where it is not asked for", three, impl.Report{Zone: 1, Kind: impl.ReDoor, Moment: 7}, false},
		{"at the first moment", three, impl.Report{Zone: 1, Kind: impl.ReGlass, Moment: 0}, true},
		{"at the last moment", three, impl.Report{Zone: 1, Kind: impl.ReGlass, Moment: 9999}, true},
		{"at the moment 10000", three, impl.Report{Zone: 1, Kind: impl.ReGlass, Moment: 10000}, false},
		{"before all moments", three, impl.Report{Zone: 1, Kind: impl.ReGlass, Moment: -1}, false},
		{"a zone that is never armed", three, impl.Report{Zone: 2, Kind: impl.ReDoor, Moment: 7}, false},
		{"a zone that is never armed, before", three, impl.Report{Zone: 2, Kind: impl.ReDoor, Moment: 6}, false},
		{"a zone that is never armed, from 0 to 0", zones(0, 0, 15), impl.Report{Kind: impl.ReDoor}, false},
		{"kind 0, whose bit is set", zones(0, 10, 15), impl.Report{Kind: 0, Moment: 5}, false},
		{"kind 1, whose bit is set", zones(0, 10, 15), impl.Report{Kind: 1, Moment: 5}, true},
		{"kind 3, whose bit is set", zones(0, 10, 15), impl.Report{Kind: 3, Moment: 5}, true},
		{"kind 4", zones(0, 10, 15), impl.Report{Kind: 4, Moment: 5}, false},
		{"kind 4, Kinds 16", zones(0, 10, 16), impl.Report{Kind: 4, Moment: 5}, false},
		{"kind 1, Kinds 17", zones(0, 10, 17), impl.Report{Kind: 1, Moment: 5}, false},
		{"kind below 0", zones(0, 10, 15), impl.Report{Kind: -1, Moment: 5}, false},
		{"the bit of kind 0 alone", zones(0, 10, 1), impl.Report{Kind: 1, Moment: 5}, false},
		{"no kinds", zones(0, 10, 0), impl.Report{Kind: 2, Moment: 5}, false},
		{"a zone past the end", three, impl.Report{Zone: 3, Kind: impl.ReDoor, Moment: 7}, false},
		{"a zone below 0", three, impl.Report{Zone: -1, Kind: impl.ReDoor, Moment: 7}, false},
		{"no zones", nil, impl.Report{Kind: impl.ReDoor, Moment: 7}, false},
		{"a zone that is not valid beside it", zones(9, 8, 99, 0, 10, 2), impl.Report{Zone: 1, Kind: impl.ReDoor, Moment: 7}, true},
		{"a zone that is not valid", zones(9, 8, 99, 0, 10, 2), impl.Report{Zone: 0, Kind: impl.ReDoor, Moment: 8}, false},
	} {
		if got := impl.Raises(c.zones, c.r); got != c.want || doesRaise(c.zones, c.r) != c.want {
			t.Errorf("%s: Raises(%v, %v) = %v", c.name, c.zones, c.r, got)
		}
	}
}

func TestRaisesEach(t *testing.T) {
	for kinds := -1; kinds <= 17; kinds++ {
		for _, list := range [][]impl.Zone{zones(3, 3, kinds), zones(3, 4, kinds), zones(3, 5, kinds), zones(4, 3, kinds), zones(0, 10000, kinds)} {
			for kind := -1; kind <= 5; kind++ {
				for moment := -1; moment <= 6; moment++ {
					r := impl.Report{Kind: kind, Moment: moment}
					if got := impl.Raises(list, r); got != doesRaise(list, r) {
						t.Fatalf("Raises(%v, %v) = %v", list, r, got)
					}
				}
			}
		}
	}
}

func TestAlarms(t *testing.T) {
	one, two := zones(0, 100, 14), zones(0, 100, 14, 0, 100, 14)
	forty := slices.Clip(reportsAt(slices.Repeat([]int{3}, 39)...))
	for _, c := range []struct {
		name   string
		zones  []impl.Zone
		list   []impl.Report
		pause  int
		alarms []int
		quiet  []int
		calm   int
	}{
		{"no reports", one, nil, 5, nil, nil, 0},
		{"no reports, but memory", one, []impl.Report{}, 5, nil, nil, 0},
		{"no zones", nil, reportsAt(3, 9), 5, nil, nil, 0},
		{"one alarm", one, reportsAt(3), 5, []int{0}, []int{0}, 0},
		{"two alarms", one, reportsAt(3, 9), 5, []int{0, 1}, []int{0, 1}, 6},
		{"pause moments later", one, reportsAt(3, 9), 6, []int{0, 1}, []int{0}, 6},
		{"pause moments earlier", one, reportsAt(9, 3), 6, []int{0, 1}, []int{0}, 6},
		{"one more earlier", one, reportsAt(9, 3), 5, []int{0, 1}, []int{0, 1}, 6},
		{"the same moment", one, reportsAt(4, 4), 0, []int{0, 1}, []int{0}, 0},
		{"pause 0", one, reportsAt(4, 5, 4, 3, 5), 0, []int{0, 1, 2, 3, 4}, []int{0, 1, 3}, 1},
		{"pause below 0", one, reportsAt(4, 5, 90), -1, []int{0, 1, 2}, nil, 85},
		{"the greatest pause", one, reportsAt(4, 99, 0), math.MaxInt, []int{0, 1, 2}, []int{0}, 95},
		{"the least pause", one, reportsAt(4, 99), math.MinInt, []int{0, 1}, nil, 95},
		{"near one that was not passed on", one, reportsAt(1, 4, 7, 10), 3, []int{0, 1, 2, 3}, []int{0, 2}, 3},
		{"near one that was not passed on, but later", one, reportsAt(1, 4, 5), 3, []int{0, 1, 2}, []int{0, 2}, 3},
		{"between two", one, reportsAt(1, 9, 5), 4, []int{0, 1, 2}, []int{0, 1}, 4},
		{"near the one before the last", one, reportsAt(1, 50, 2, 49), 4, []int{0, 1, 2, 3}, []int{0, 1}, 47},
		{"other zones", two, reports(0, 1, 3, 1, 1, 3, 0, 1, 4, 1, 1, 5, 1, 1, 9), 2, []int{0, 1, 2, 3, 4}, []int{0, 1, 4}, 4},
		{"another kind of the same zone", one, reports(0, 1, 3, 0, 2, 4, 0, 3, 9), 2, []int{0, 1, 2}, []int{0, 2}, 5},
		{"one that raises no alarm is not heard", zones(0, 100, 2), reports(0, 2, 3, 0, 1, 4, 0, 1, 5), 1, []int{1, 2}, []int{1}, 1},
		{"one that raises no alarm does not end the calm", zones(0, 100, 2), reports(0, 1, 3, 0, 2, 20, 0, 1, 40), 1, []int{0, 2}, []int{0, 2}, 37},
		{"not in the order of the moments", one, reportsAt(30, 10, 99, 12, 31), 1, []int{0, 1, 2, 3, 4}, []int{0, 1, 2, 3}, 68},
		{"the longest calm is the first one", one, reportsAt(0, 50, 60), 1, []int{0, 1, 2}, []int{0, 1, 2}, 50},
		{"the longest calm is between zones", two, reports(0, 1, 3, 1, 1, 40, 1, 1, 60, 0, 1, 62), 1, []int{0, 1, 2, 3}, []int{0, 1, 2, 3}, 37},
		{"a zone that is never armed", zones(5, 5, 15), reportsAt(4, 5, 6), 1, nil, nil, 0},
		{"one alarm among others", one, reports(0, 1, 3, 0, 4, 9, 1, 1, 20), 1, []int{0}, []int{0}, 0},
		{"40 reports", one, append(forty, reportsAt(50)...), 0, slices.Collect(countTo(40)), []int{0, 39}, 47},
		{"41 reports", one, append(forty, reportsAt(3, 50)...), 0, slices.Collect(countTo(41)), []int{0, 40}, 0},
		{"41 reports, one of them an alarm", one, append(forty, reportsAt(50, 200)...), 0, slices.Collect(countTo(40)), []int{0, 39}, 0},
		{"the whole time", zones(0, 10000, 2), reportsAt(0, 9999, 10000, -1), 9998, []int{0, 1}, []int{0, 1}, 9999},
	} {
		if got := impl.AlarmsOf(c.zones, c.list); !slices.Equal(got, c.alarms) {
			t.Errorf("%s: AlarmsOf(%v, %v) = %v; want %v", c.name, c.zones, c.list, got, c.alarms)
		}
		if got := impl.QuietAlarms(c.zones, c.list, c.pause); !slices.Equal(got, c.quiet) {
			t.Errorf("%s: QuietAlarms(%v, %v, %d) = %v; want %v", c.name, c.zones, c.list, c.pause, got, c.quiet)
		}
		if got := impl.LongestCalm(c.zones, c.list); got != c.calm || calmIn(c.zones, c.list) != c.calm {
			t.Errorf("%s: LongestCalm(%v, %v) = %d; want %d", c.name, c.zones, c.list, got, c.calm)
		}
	}
}

// Promise 29: every alarm is near one that was passed on.
func TestAlarmsMany(t *testing.T) {
	source, counts := rand.New(rand.NewSource(129)), map[string]int{}
	for range 8000 {
		var list []impl.Zone
		for range 1 + source.Intn(3) {
			list = append(list, impl.Zone{From: source.Intn(12), To: 8 + source.Intn(40), Kinds: source.Intn(9) + source.Intn(9)})
		}
		var all []impl.Report
		for range source.Intn(44) {
			all = append(all, impl.Report{Zone: source.Intn(len(list)+2) - 1, Kind: source.Intn(5), Moment: source.Intn(48)})
		}
		alarms, pause := alarmsIn(list, all), source.Intn(10)
		if got := impl.AlarmsOf(list, all); !slices.Equal(got, alarms) {
			t.Fatalf("AlarmsOf(%v, %v) = %v; want %v", list, all, got, alarms)
		}
		if got := impl.LongestCalm(list, all); got != calmIn(list, all) {
			t.Fatalf("LongestCalm(%v, %v) = %d; want %d", list, all, got, calmIn(list, all))
		}
		quiet := impl.QuietAlarms(list, all, pause)
		if !slices.IsSorted(quiet) || len(impl.QuietAlarms(list, all, -1-pause)) != 0 {
			t.Fatalf("QuietAlarms(%v, %v, %d) = %v, or not nothing below 0", list, all, pause, quiet)
		}
		passedOn := 0
		for _, k := range alarms {
			isPassedOn := slices.Contains(quiet, k)
			if isPassedOn {
				passedOn++
			}
			before := slices.DeleteFunc(slices.Clone(quiet), func(i int) bool { return i >= k })
			if isNear(all, before, k, pause) == isPassedOn {
				t.Fatalf("QuietAlarms(%v, %v, %d) = %v: with %d, %v", list, all, pause, quiet, k, isPassedOn)
			}
		}
		if passedOn != len(quiet) {
			t.Fatalf("QuietAlarms(%v, %v, %d) = %v, but the alarms are %v", list, all, pause, quiet, alarms)
		}
		counts["alarms"] += len(alarms)
		counts["passed on"] += len(quiet)
	}
	if counts["passed on"] < 5000 || counts["alarms"]-counts["passed on"] < 2000 {
		t.Errorf("too few alarms are passed on, or not: %v", counts)
	}
}

func TestAlarmsInvalid(t *testing.T) {
	for _, bad := range badZones() {
		list := []impl.Zone{bad, {From: 0, To: 10000, Kinds: 14}, bad}
		for _, moment := range []int{0, 5, bad.From, bad.To, bad.To - 1, math.MaxInt, math.MinInt} {
			for kind := -1; kind <= 4; kind++ {
				all := []impl.Report{{Zone: 0, Kind: kind, Moment: moment}, {Zone: 2, Kind: kind, Moment: moment}, {Zone: 1, Kind: 1, Moment: 7}}
				if impl.Raises(list, all[0]) || impl.Raises(list, all[1]) {
					t.Errorf("Raises(%v, %v) = true", list, all[0])
				}
				if alarms, quiet := impl.AlarmsOf(list, all), impl.QuietAlarms(list, all, 0); !slices.Equal(alarms, []int{2}) || !slices.Equal(quiet, []int{2}) || impl.LongestCalm(list, all) != 0 {
					t.Errorf("AlarmsOf(%v, %v) = %v, QuietAlarms = %v", list, all, alarms, quiet)
				}
			}
		}
	}
	one := zones(0, 10000, 14)
	for _, n := range outside(0, 0) {
		checkNoAlarm(t, one, impl.Report{Zone: n, Kind: 1, Moment: 5})
	}
	for _, n := range outside(1, 3) {
		checkNoAlarm(t, one, impl.Report{Kind: n, Moment: 5})
	}
	for _, n := range outside(0, 9999) {
		checkNoAlarm(t, one, impl.Report{Kind: 1, Moment: n})
	}
	for _, n := range outside(0, math.MaxInt-2) {
		if got := impl.QuietAlarms(one, reportsAt(5, 6, 7), n); n < 0 && len(got) != 0 {
			t.Errorf("QuietAlarms with the pause %d = %v", n, got)
		}
	}
}

func checkNoAlarm(t *testing.T, list []impl.Zone, r impl.Report) {
	t.Helper()
	all := []impl.Report{r, r}
	if impl.Raises(list, r) || len(impl.AlarmsOf(list, all)) != 0 || len(impl.QuietAlarms(list, all, 0)) != 0 || impl.LongestCalm(list, all) != 0 {
		t.Errorf("Raises(%v, %v) = %v, AlarmsOf = %v", list, r, impl.Raises(list, r), impl.AlarmsOf(list, all))
	}
}

func TestAlarmArguments(t *testing.T) {
	allZones, all := zones(0, 100, 14, 0, 50, 2, 9, 8, 7), reports(0, 1, 3, 1, 1, 4, 0, 2, 9, 2, 1, 3, 0, 1, 2, 0, 1, 60)
	zonesBefore, before := slices.Clone(allZones), slices.Clone(all)
	for n := range len(allZones) {
		for k := range len(all) {
			some, list := allZones[:n], all[:k]
			impl.Raises(some, all[k])
			impl.LongestCalm(some, list)
			checkNumbersNew(t, func() []int { return impl.AlarmsOf(some, list) })
			checkNumbersNew(t, func() []int { return impl.QuietAlarms(some, list, 2) })
		}
	}
	if !slices.Equal(allZones, zonesBefore) || !slices.Equal(all, before) {
		t.Errorf("a function changes its arguments: %v, %v", allZones, all)
	}
}
