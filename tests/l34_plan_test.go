package tests

import (
	"math/rand"
	"slices"
	"testing"

	"loop.example/g00991/impl"
)

// easy returns loans that are fit for each hall of fair.
func easy(n int) []impl.Loan { return slices.Repeat(loans(100, 40, 60, 0), n) }

func fair(n int) []impl.Climate { return slices.Repeat(climates(50, 50, 1), n) }

// bright is a loan for the halls with at least so many guards; guarded are halls with 1, 2, 3, ... guards.
func bright(guards int) impl.Loan { return impl.Loan{Light: 100, Low: 40, High: 60, Guards: guards} }

func guarded(n int) []impl.Climate {
	halls := fair(n)
	for k := range halls {
		halls[k].Guards = k + 1
	}
	return halls
}

func canPlan(list []impl.Loan, halls []impl.Climate, room []int) bool {
	if len(list) > 6 || len(halls) < 1 || len(halls) > 5 || len(room) != len(halls) {
		return false
	}
	for _, n := range room {
		if n != min(max(n, 0), 6) {
			return false
		}
	}
	return true
}

// plansBy looks at all lists of halls; the program fills the halls one by one.
func plansBy(list []impl.Loan, halls []impl.Climate, room []int) [][]int {
	var plans [][]int
	if !canPlan(list, halls, room) {
		return nil
	}
	for _, plan := range listsOf(len(list), len(halls)) {
		isGood := true
		for k, hall := range plan {
			isGood = isGood && breachesBy(list[k], halls[hall]) == 0
		}
		for hall := range halls {
			count := 0
			for _, other := range plan {
				if other == hall {
					count++
				}
			}
			isGood = isGood && count <= room[hall]
		}
		if isGood {
			plans = append(plans, plan)
		}
	}
	return plans
}

// setsOf are all strictly ascending lists of numbers below n: the shorter ones first, and those of one length in lexicographic order.
func setsOf(n int) [][]int {
	var sets [][]int
	for set := range 1 << n {
		var list []int
		for k := range n {
			if set>>k&1 == 1 {
				list = append(list, k)
			}
		}
		sets = append(sets, list)
	}
	slices.SortFunc(sets, func(a []int, b []int) int {
		if len(a) != len(b) {
			return len(a) - len(b)
		}
		return slices.Compare(a, b)
	})
	return sets
}

func pickedFrom[E any](list []E, picked []int) []E {
	var some []E
	for _, k := range picked {
		some = append(some, list[k])
	}
	return some
}

// conflictBy looks for a set of loans that have nowhere to go but to halls without enough room for them, which is so just if they have no plan.
func conflictBy(list []impl.Loan, halls []impl.Climate, room []int) []int {
	if !canPlan(list, halls, room) {
		return nil
	}
	for _, set := range setsOf(len(list)) {
		there := 0
		for hall, c := range halls {
			isFit := func(l impl.Loan) bool { return breachesBy(l, c) == 0 }
			if slices.ContainsFunc(pickedFrom(list, set), isFit) {
				there += room[hall]
			}
		}
		if there < len(set) {
			return set
		}
	}
	return nil
}

func checkPlans(t *testing.T, name string, list []impl.Loan, halls []impl.Climate, room []int, first []int, count int, conflict []int) {
	t.Helper()
	if got, ok := impl.FirstPlan(list, halls, room); !slices.Equal(got, first) || ok != (count > 0) {
		t.Fatalf("%s: FirstPlan(%v, %v, %v) = %v, %v; want %v", name, list, halls, room, got, ok, first)
	}
	if got := impl.CountPlans(list, halls, room); got != count {
		t.Fatalf("%s: CountPlans(%v, %v, %v) = %d; want %d", name, list, halls, room, got, count)
	}
	if got := impl.LeastConflict(list, halls, room); !slices.Equal(got, conflict) {
		t.Fatalf("%s: LeastConflict(%v, %v, %v) = %v; want %v", name, list, halls, room, got, conflict)
	}
}

func TestPlans(t *testing.T) {
	wrong, two := impl.Loan{Low: 2, High: 1}, guarded(2)
	for _, c := range []struct {
		name     string
		loans    []impl.Loan
		halls    []impl.Climate
		room     []int
		first    []int
		count    int
		conflict []int
	}{
		{"no loans", nil, fair(1), []int{1}, nil, 1, nil},
		{"no loans, but memory", []impl.Loan{}, fair(2), []int{0, 6}, nil, 1, nil},
		{"no loans, and halls without room", nil, fair(2), []int{0, 0}, nil, 1, nil},
		{"no loans and no halls", nil, nil, nil, nil, 0, nil},
		{"one loan", easy(1), fair(1), []int{1}, []int{0}, 1, nil},
		{"one loan, three halls", easy(1), fair(3), []int{1, 1, 1}, []int{0}, 3, nil},
		{"one loan, a hall without room", easy(1), fair(1), []int{0}, nil, 0, []int{0}},
		{"one loan, one of the halls without room", easy(1), fair(3), []int{0, 2, 1}, []int{1}, 2, nil},
		{"one loan, all halls without room", easy(1), fair(3), []int{0, 0, 0}, nil, 0, []int{0}},
		{"two loans, room for one", easy(2), fair(1), []int{1}, nil, 0, []int{0, 1}},
		{"two loans, room for two", easy(2), fair(1), []int{2}, []int{0, 0}, 1, nil},
		{"two loans, two halls", easy(2), fair(2), []int{1, 1}, []int{0, 1}, 2, nil},
		{"two loans, two halls with much room", easy(2), fair(2), []int{6, 6}, []int{0, 0}, 4, nil},
		{"three loans, room for two", easy(3), fair(2), []int{1, 1}, nil, 0, []int{0, 1, 2}},
		{"a loan for the second hall alone", []impl.Loan{bright(2), bright(1)}, two, []int{1, 1}, []int{1, 0}, 1, nil},
		{"both could go to the first hall, one of them must not", []impl.Loan{bright(1), bright(2)}, two, []int{1, 1}, []int{0, 1}, 1, nil},
		{"the first loan has to leave the first hall", []impl.Loan{bright(1), {Light: 100, Low: 50, High: 50, Guards: 1}}, climates(50, 50, 1, 50, 45, 1), []int{1, 1}, []int{1, 0}, 1, nil},
		{"two loans for the second hall alone", []impl.Loan{bright(1), bright(2), bright(2)}, two, []int{6, 1}, nil, 0, []int{1, 2}},
		{"two loans for the second hall alone, and one between", []impl.Loan{bright(2), bright(1), bright(2)}, two, []int{6, 1}, nil, 0, []int{0, 2}},
		{"several least conflicts", []impl.Loan{bright(1), bright(2), bright(2), bright(2)}, two, []int{6, 1}, nil, 0, []int{1, 2}},
		{"several least conflicts, in two halls", []impl.Loan{bright(3), bright(2), bright(3), bright(2), bright(2)}, guarded(3), []int{0, 1, 1}, nil, 0, []int{0, 2}},
		{"a shorter conflict behind a longer one", []impl.Loan{bright(1), bright(1), bright(1), bright(2)}, two, []int{2, 0}, nil, 0, []int{3}},
		{"a loan for no hall", []impl.Loan{bright(1), bright(9), bright(1)}, two, []int{6, 6}, nil, 0, []int{1}},
		{"two loans for no hall", []impl.Loan{bright(1), bright(9), bright(8)}, two, []int{6, 6}, nil, 0, []int{1}},
		{"a loan that is not valid", []impl.Loan{bright(1), bright(2), wrong}, two, []int{6, 6}, nil, 0, []int{2}},
		{"only loans that are not valid", []impl.Loan{wrong, wrong}, two, []int{6, 6}, nil, 0, []int{0}},
		{"6 loans", easy(6), fair(1), []int{6}, []int{0, 0, 0, 0, 0, 0}, 1, nil},
		{"6 loans, room for 5", easy(6), fair(1), []int{5}, nil, 0, []int{0, 1, 2, 3, 4, 5}},
		{"6 loans, room for 6 in 5 halls", easy(6), fair(5), []int{1, 1, 1, 1, 2}, []int{0, 1, 2, 3, 4, 4}, 360, nil},
		{"6 loans, room for all in 5 halls", easy(6), fair(5), []int{6, 6, 6, 6, 6}, []int{0, 0, 0, 0, 0, 0}, 15625, nil},
		{"6 loans, room for 5 in 5 halls", easy(6), fair(5), []int{1, 1, 1, 1, 1}, nil, 0, []int{0, 1, 2, 3, 4, 5}},
		{"7 loans", easy(7), fair(2), []int{6, 6}, nil, 0, nil},
		{"7 loans, no room", easy(7), fair(1), []int{0}, nil, 0, nil},
		{"no hall", easy(1), nil, nil, nil, 0, nil},
		{"no hall, but room", easy(1), nil, []int{1}, nil, 0, nil},
		{"5 halls", easy(1), fair(5), []int{0, 0, 0, 0, 1}, []int{4}, 1, nil},
		{"6 halls", easy(1), fair(6), []int{1, 1, 1, 1, 1, 1}, nil, 0, nil},
		{"6 halls without room", easy(1), fair(6), []int{0, 0, 0, 0, 0, 0}, nil, 0, nil},
		{"6 halls, and no loans", nil, fair(6), []int{1, 1, 1, 1, 1, 1}, nil, 0, nil},
		{"too few numbers of room", easy(1), fair(2), []int{1}, nil, 0, nil},
		{"too many numbers of room", easy(1), fair(2), []int{1, 1, 1}, nil, 0, nil},
		{"too few numbers of room, and none is left", easy(2), fair(2), []int{0}, nil, 0, nil},
		{"no numbers of room", easy(1), fair(1), nil, nil, 0, nil},
		{"room 6", easy(1), fair(2), []int{0, 6}, []int{1}, 1, nil},
		{"room 7", easy(1), fair(2), []int{0, 7}, nil, 0, nil},
		{"room -1", easy(1), fair(2), []int{1, -1}, nil, 0, nil},
		{"room -1, and no room in the other hall", easy(1), fair(2), []int{-1, 0}, nil, 0, nil},
		{"room 7, and no loans", nil, fair(1), []int{7}, nil, 0, nil},
	} {
		plans := plansBy(c.loans, c.halls, c.room)
		if len(plans) != c.count || !slices.Equal(conflictBy(c.loans, c.halls, c.room), c.conflict) {
			t.Errorf("%s: should be %d plans and the conflict %v", c.name, len(plans), conflictBy(c.loans, c.halls, c.room))
		}
		checkPlans(t, c.name, c.loans, c.halls, c.room, c.first, c.count, c.conflict)
	}
}

func TestPlanOk(t *testing.T) {
	pair, two := []impl.Loan{bright(1), bright(2)}, guarded(2)
	for _, c := range []struct {
		name  string
		loans []impl.Loan
		halls []impl.Climate
		room  []int
		plan  []int
		want  bool
	}{
		{"no loans", nil, two, []int{0, 0}, nil, true},
		{"no loans, but memory", nil, two, []int{0, 0}, []int{}, true},
		{"no loans, a plan for one", nil, two, []int{1, 1}, []int{0}, false},
		{"a plan", pair, two, []int{1, 1}, []int{0, 1}, true},
		{"another plan", pair, two, []int{0, 2}, []int{1, 1}, true},
		{"a breach", pair, two, []int{2, 1}, []int{0, 0}, false},
		{"no room", pair, two, []int{0, 1}, []int{0, 1}, false},
		{"no room for two", pair, two, []int{1, 1}, []int{1, 1}, false},
		{"a plan that is too short", pair, two, []int{1, 1}, []int{0}, false},
		{"a plan that is too long", pair, two, []int{1, 1}, []int{0, 1, 1}, false},
		{"a plan that is too long, and room for all", pair, two, []int{6, 6}, []int{0, 1, 1}, false},
		{"no plan", pair, two, []int{1, 1}, nil, false},
		{"a hall past the end", pair, two, []int{6, 6}, []int{0, 2}, false},
		{"a hall below 0", pair, two, []int{6, 6}, []int{-1, 1}, false},
		{"a loan that is not valid", loans(100, 60, 40, 0), two, []int{6, 6}, []int{0}, false},
		{"6 loans", easy(6), fair(1), []int{6}, []int{0, 0, 0, 0, 0, 0}, true},
		{"6 loans in 5 halls", easy(6), fair(5), []int{1, 1, 1, 1, 2}, []int{4, 0, 1, 4, 2, 3}, true},
		{"7 loans", easy(7), fair(2), []int{6, 6}, []int{0, 0, 0, 0, 0, 0, 1}, false},
		{"no hall", nil, nil, nil, nil, false},
		{"6 halls", easy(1), fair(6), []int{1, 1, 1, 1, 1, 1}, []int{0}, false},
		{"6 halls, and no loans", nil, fair(6), []int{1, 1, 1, 1, 1, 1}, nil, false},
		{"too few numbers of room", easy(1), fair(2), []int{1}, []int{0}, false},
		{"too many numbers of room", easy(1), fair(2), []int{1, 1, 1}, []int{0}, false},
		{"room 7 in another hall", easy(1), fair(2), []int{1, 7}, []int{0}, false},
		{"room -1 in another hall", easy(1), fair(2), []int{1, -1}, []int{0}, false},
		{"room 7, and no loans", nil, fair(2), []int{7, 1}, nil, false},
	} {
		if got := impl.PlanOk(c.loans, c.halls, c.room, c.plan); got != c.want {
			t.Errorf("%s: PlanOk(%v, %v, %v, %v) = %v", c.name, c.loans, c.halls, c.room, c.plan, got)
		}
	}
}

// Promise 34: there is a plan or a conflict.
func TestPlansMany(t *testing.T) {
	source, counts := rand.New(rand.NewSource(134)), map[string]int{}
	for range 1500 {
		var list []impl.Loan
		var halls []impl.Climate
		var room []int
		for range source.Intn(6) {
			list = append(list, impl.Loan{Light: 3 + source.Intn(4), Low: source.Intn(4), High: 2 + source.Intn(5), Guards: source.Intn(3)})
		}
		for range 1 + source.Intn(4) {
			halls = append(halls, impl.Climate{Light: source.Intn(6), Humidity: 1 + source.Intn(4), Guards: source.Intn(4)})
			room = append(room, source.Intn(4))
		}
		plans, conflict := plansBy(list, halls, room), conflictBy(list, halls, room)
		var first []int
		if len(plans) > 0 {
			first = plans[0]
			counts["plans"]++
		} else {
			counts["conflicts of length "+string(rune('0'+len(conflict)))]++
		}
		checkPlans(t, "at random", list, halls, room, first, len(plans), conflict)
		if (len(plans) > 0) == (len(conflict) > 0) {
			t.Fatalf("%v, %v, %v: %d plans, and the conflict %v", list, halls, room, len(plans), conflict)
		}
		for k := range conflict {
			fewer := pickedFrom(list, slices.Delete(slices.Clone(conflict), k, k+1))
			if _, ok := impl.FirstPlan(fewer, halls, room); !ok {
				t.Fatalf("LeastConflict(%v, %v, %v) = %v is not least", list, halls, room, conflict)
			}
		}
		for _, plan := range listsOf(len(list), len(halls)) {
			isPlan := slices.ContainsFunc(plans, func(p []int) bool { return slices.Equal(p, plan) })
			if impl.PlanOk(list, halls, room, plan) != isPlan {
				t.Fatalf("PlanOk(%v, %v, %v, %v) = %v", list, halls, room, plan, !isPlan)
			}
		}
	}
	for _, name := range []string{"plans", "conflicts of length 1", "conflicts of length 2", "conflicts of length 3"} {
		if counts[name] < 20 {
			t.Errorf("too few %s: %v", name, counts)
		}
	}
}

func TestPlansInvalid(t *testing.T) {
	two := guarded(2)
	for _, bad := range badLoans() {
		for k := range 3 {
			list := slices.Insert([]impl.Loan{bright(1), bright(2)}, k, bad)
			checkPlans(t, "a loan that is not valid", list, two, []int{6, 6}, nil, 0, []int{k})
			for _, plan := range listsOf(3, 2) {
				if impl.PlanOk(list, two, []int{6, 6}, plan) {
					t.Errorf("PlanOk(%v, %v) = true", list, plan)
				}
			}
		}
	}
	for _, n := range outside(0, 6) {
		for k := range 3 {
			room := slices.Insert([]int{0, 0}, k, n)
			checkPlans(t, "room that is not valid", easy(1), fair(3), room, nil, 0, nil)
			checkPlans(t, "room that is not valid, no loans", nil, fair(3), room, nil, 0, nil)
			if impl.PlanOk(easy(1), fair(3), room, []int{k}) || impl.PlanOk(nil, fair(3), room, nil) {
				t.Errorf("PlanOk with the room %v = true", room)
			}
		}
	}
	for _, n := range outside(0, 1) {
		for k := range 3 {
			if plan := slices.Insert([]int{1, 1}, k, n); impl.PlanOk(easy(3), two, []int{6, 6}, plan) {
				t.Errorf("PlanOk with the plan %v = true", plan)
			}
		}
	}
	// Halls are never invalid.
	for _, n := range outside(0, 100) {
		halls := climates(n, n, n, 50, 50, 1, n, 50, n)
		plans := plansBy(easy(2), halls, []int{1, 1, 1})
		var first []int
		if len(plans) > 0 {
			first = plans[0]
		}
		checkPlans(t, "far climates", easy(2), halls, []int{1, 1, 1}, first, len(plans), conflictBy(easy(2), halls, []int{1, 1, 1}))
	}
}

func TestPlanArguments(t *testing.T) {
	allLoans, allHalls, room, plan := append(easy(3), bright(2), bright(9), impl.Loan{High: -1}), append(guarded(3), fair(2)...), []int{1, 2, 0, 1, 9}, []int{0, 1, 1, 1, 77}
	loansBefore, hallsBefore := slices.Clone(allLoans), slices.Clone(allHalls)
	for n := range len(allLoans) {
		for k := range len(allHalls) {
			list, halls := allLoans[:n], allHalls[:k]
			impl.PlanOk(list, halls, room[:k], plan[:min(n, 4)])
			impl.CountPlans(list, halls, room[:k])
			checkNumbersNew(t, func() []int { return impl.LeastConflict(list, halls, room[:k]) })
			checkNumbersNew(t, func() []int {
				first, _ := impl.FirstPlan(list, halls, room[:k])
				return first
			})
		}
	}
	if !slices.Equal(allLoans, loansBefore) || !slices.Equal(allHalls, hallsBefore) || !slices.Equal(room, []int{1, 2, 0, 1, 9}) || !slices.Equal(plan, []int{0, 1, 1, 1, 77}) {
		t.Errorf("a function changes its arguments: %v, %v, %v, %v", allLoans, allHalls, room, plan)
	}
}
