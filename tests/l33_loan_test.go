package tests

import (
	"math"
	"math/rand"
	"slices"
	"testing"

	"loop.example/g00991/impl"
)

// loans takes Light, Low, High and Guards by turns.
func loans(numbers ...int) []impl.Loan {
	var list []impl.Loan
	for i := 0; i+3 < len(numbers); i += 4 {
		list = append(list, impl.Loan{Light: numbers[i], Low: numbers[i+1], High: numbers[i+2], Guards: numbers[i+3]})
	}
	return list
}

// climates takes Light, Humidity and Guards by turns.
func climates(numbers ...int) []impl.Climate {
	var list []impl.Climate
	for i := 0; i+2 < len(numbers); i += 3 {
		list = append(list, impl.Climate{Light: numbers[i], Humidity: numbers[i+1], Guards: numbers[i+2]})
	}
	return list
}

func goodLoans() []impl.Loan {
	return loans(0, 0, 0, 0, 1000, 0, 100, 1000, 1000, 100, 100, 0, 0, 0, 100, 1000, 100, 40, 60, 1, 80, 50, 70, 0, 80, 60, 60, 2, 80, 61, 70, 2, 100, 0, 40, 1)
}

func badLoans() []impl.Loan {
	bad := loans(5, 2, 1, 5, 5, 100, 99, 5, 5, 100, 0, 5)
	for _, n := range outside(0, 1000) {
		bad = append(bad, loans(n, 0, 100, 0, 1000, 0, 100, n, n, 0, 100, n)...)
	}
	for _, n := range outside(0, 100) {
		bad = append(bad, loans(1000, n, 100, 0, 1000, 0, n, 0, 1000, n, n, 0)...)
	}
	return bad
}

func isLoan(l impl.Loan) bool {
	isIn := func(n int, limit int) bool { return n == min(max(n, 0), limit) }
	return isIn(l.Light, 1000) && isIn(l.Guards, 1000) && isIn(l.Low, 100) && isIn(l.High, 100) && l.High == max(l.Low, l.High)
}

// isFit tells for each demand of a valid loan whether a hall is as demanded.
func isFit(l impl.Loan, c impl.Climate) [3]bool {
	return [3]bool{max(c.Light, l.Light) == l.Light, min(max(c.Humidity, l.Low), l.High) == c.Humidity, max(c.Guards, l.Guards) == c.Guards}
}

func breachesBy(l impl.Loan, c impl.Climate) int {
	if !isLoan(l) {
		return 7
	}
	breaches := 0
	for k, is := range isFit(l, c) {
		if !is {
			breaches += []int{1, 2, 4}[k]
		}
	}
	return breaches
}

// climatesAround are halls with the numbers of the loans, one more and one less, and the least and the greatest ones.
func climatesAround(list ...impl.Loan) []impl.Climate {
	lights, humidities, guards := []int{math.MinInt, math.MaxInt}, []int{math.MinInt, math.MaxInt}, []int{math.MinInt, math.MaxInt}
	for _, l := range list {
		lights = append(lights, l.Light-1, l.Light, l.Light+1)
		humidities = append(humidities, l.Low-1, l.Low, l.High, l.High+1)
		guards = append(guards, l.Guards-1, l.Guards, l.Guards+1)
	}
	var halls []impl.Climate
	for _, light := range lights {
		for _, humidity := range humidities {
			for _, count := range guards {
				halls = append(halls, impl.Climate{Light: light, Humidity: humidity, Guards: count})
			}
		}
	}
	return halls
}

func TestLoanOk(t *testing.T) {
	for _, l := range goodLoans() {
		if !impl.LoanOk(l) || !isLoan(l) {
			t.Errorf("LoanOk(%v) = false", l)
		}
	}
	for _, l := range badLoans() {
		if impl.LoanOk(l) || isLoan(l) {
			t.Errorf("LoanOk(%v) = true", l)
		}
	}
}

func TestBreaches(t *testing.T) {
	l := loans(100, 40, 60, 2)[0]
	for _, c := range []struct {
		name string
		loan impl.Loan
		hall impl.Climate
		want int
	}{
		{"as demanded", l, climates(50, 50, 5)[0], 0},
		{"at all limits", l, climates(100, 40, 2)[0], 0},
		{"at the other limit", l, climates(100, 60, 2)[0], 0},
		{"too bright", l, climates(101, 50, 2)[0], 1},
		{"too dry", l, climates(100, 39, 2)[0], 2},
		{"too damp", l, climates(100, 61, 2)[0], 2},
		{"too few guards", l, climates(100, 50, 1)[0], 4},
		{"too bright and too dry", l, climates(101, 39, 2)[0], 3},
		{"too bright and too few guards", l, climates(101, 60, 1)[0], 5},
		{"too damp and too few guards", l, climates(0, 61, 1)[0], 6},
		{"nothing as demanded", l, climates(200, 0, 0)[0], 7},
		{"one humidity", loans(100, 40, 40, 0)[0], climates(0, 40, 0)[0], 0},
		{"one humidity, too dry", loans(100, 40, 40, 0)[0], climates(0, 39, 0)[0], 2},
		{"one humidity, too damp", loans(100, 40, 40, 0)[0], climates(0, 41, 0)[0], 2},
		{"the least light", l, climates(math.MinInt, 50, 2)[0], 0},
		{"the greatest light", l, climates(math.MaxInt, 50, 2)[0], 1},
		{"the least humidity", l, climates(0, math.MinInt, 2)[0], 2},
		{"the greatest humidity", l, climates(0, math.MaxInt, 2)[0], 2},
		{"the least guards", l, climates(0, 50, math.MinInt)[0], 4},
		{"the greatest guards", l, climates(0, 50, math.MaxInt)[0], 0},
		{"no demands", loans(1000, 0, 100, 0)[0], climates(1000, 100, 0)[0], 0},
		{"no demands, and beyond all limits", loans(1000, 0, 100, 0)[0], climates(1001, 101, -1)[0], 7},
		{"a loan that is not valid", loans(1000, 2, 1, 0)[0], climates(0, 1, 5)[0], 7},
		{"a loan with too much light", loans(1001, 0, 100, 0)[0], climates(0, 50, 5)[0], 7},
	} {
		if got := impl.Breaches(c.loan, c.hall); got != c.want || breachesBy(c.loan, c.hall) != c.want {
			t.Errorf("%s: Breaches(%v, %v) = %d; want %d", c.name, c.loan, c.hall, got, c.want)
		}
	}
	for _, loan := range append(goodLoans(), badLoans()...) {
		for _, hall := range climatesAround(loan) {
			if got := impl.Breaches(loan, hall); got != breachesBy(loan, hall) {
				t.Errorf("Breaches(%v, %v) = %d; want %d", loan, hall, got, breachesBy(loan, hall))
			}
		}
	}
}

func TestHallsFor(t *testing.T) {
	l := loans(100, 40, 60, 2)[0]
	for _, c := range []struct {
		name  string
		loan  impl.Loan
		halls []impl.Climate
		want  []int
	}{
		{"no halls", l, nil, nil},
		{"no halls, but memory", l, []impl.Climate{}, nil},
		{"a loan that is not valid, no halls", loans(100, 60, 40, 2)[0], nil, nil},
		{"one hall", l, climates(50, 50, 5), []int{0}},
		{"one hall that is not fit", l, climates(50, 50, 1), nil},
		{"some halls", l, climates(50, 50, 5, 50, 50, 1, 100, 40, 2, 0, 39, 2, 101, 50, 2, 0, 60, 1000), []int{0, 2, 5}},
		{"the same hall many times", l, slices.Repeat(climates(50, 50, 5, 101, 50, 5), 500), slices.DeleteFunc(slices.Collect(countTo(1000)), func(k int) bool { return k%2 == 1 })},
		{"a loan that is not valid", loans(100, 60, 40, 2)[0], climates(50, 50, 5, 50, 60, 5), nil},
	} {
		if got := impl.HallsFor(c.loan, c.halls); !slices.Equal(got, c.want) {
			t.Errorf("%s: HallsFor(%v, %v) = %v; want %v", c.name, c.loan, c.halls, got, c.want)
		}
	}
}

func TestTwoLoans(t *testing.T) {
	a := loans(100, 40, 60, 2)[0]
	none := impl.Loan{}
	for _, c := range []struct {
		name       string
		a, b       impl.Loan
		isStricter bool
		joined     impl.Loan
		ok         bool
	}{
		{"a loan and itself", a, a, true, a, true},
		{"less light", loans(99, 40, 60, 2)[0], a, true, loans(99, 40, 60, 2)[0], true},
		{"more light", loans(101, 40, 60, 2)[0], a, false, a, true},
		{"not so dry", loans(100, 41, 60, 2)[0], a, true, loans(100, 41, 60, 2)[0], true},
		{"drier", loans(100, 39, 60, 2)[0], a, false, a, true},
		{"not so damp", loans(100, 40, 59, 2)[0], a, true, loans(100, 40, 59, 2)[0], true},
		{"damper", loans(100, 40, 61, 2)[0], a, false, a, true},
		{"more guards", loans(100, 40, 60, 3)[0], a, true, loans(100, 40, 60, 3)[0], true},
		{"fewer guards", loans(100, 40, 60, 1)[0], a, false, a, true},
		{"all stricter", loans(0, 50, 50, 9)[0], a, true, loans(0, 50, 50, 9)[0], true},
		{"some stricter, some not", loans(80, 50, 70, 0)[0], a, false, loans(80, 50, 60, 2)[0], true},
		{"ranges that touch", loans(100, 60, 70, 2)[0], a, false, loans(100, 60, 60, 2)[0], true},
		{"ranges that touch, below", loans(100, 0, 40, 2)[0], a, false, loans(100, 40, 40, 2)[0], true},
		{"ranges that do not meet", loans(100, 61, 70, 2)[0], a, false, none, false},
		{"ranges that do not meet, below", loans(100, 0, 39, 2)[0], a, false, none, false},
		{"one humidity within", loans(100, 50, 50, 2)[0], a, true, loans(100, 50, 50, 2)[0], true},
		{"one humidity each, the same", loans(0, 7, 7, 0)[0], loans(0, 7, 7, 0)[0], true, loans(0, 7, 7, 0)[0], true},
		{"one humidity each", loans(0, 7, 7, 0)[0], loans(0, 8, 8, 0)[0], false, none, false},
		{"the strictest and the least strict", loans(0, 0, 0, 1000)[0], loans(1000, 0, 100, 0)[0], true, loans(0, 0, 0, 1000)[0], true},
		{"the zero loan", none, none, true, none, true},
		{"the first one is not valid", loans(0, 50, 49, 9)[0], a, false, none, false},
		{"the second one is not valid", loans(0, 50, 50, 9)[0], loans(1001, 40, 60, 0)[0], false, none, false},
		{"both are not valid", loans(-1, 50, 50, 9)[0], loans(-1, 50, 50, 9)[0], false, none, false},
	} {
		if got := impl.Stricter(c.a, c.b); got != c.isStricter {
			t.Errorf("%s: Stricter(%v, %v) = %v", c.name, c.a, c.b, got)
		}
		if got, ok := impl.JoinLoans(c.a, c.b); got != c.joined || ok != c.ok {
			t.Errorf("%s: JoinLoans(%v, %v) = %v, %v; want %v, %v", c.name, c.a, c.b, got, ok, c.joined, c.ok)
		}
		if got, ok := impl.JoinLoans(c.b, c.a); got != c.joined || ok != c.ok {
			t.Errorf("%s: JoinLoans(%v, %v) = %v, %v; want %v, %v", c.name, c.b, c.a, got, ok, c.joined, c.ok)
		}
	}
}

// checkTwoLoans looks at the halls that are fit, those at the limits among them: one loan is stricter just if each hall that is fit for it is fit for the other one.
func checkTwoLoans(t *testing.T, a impl.Loan, b impl.Loan) (bool, bool) {
	t.Helper()
	joined, ok := impl.JoinLoans(a, b)
	isStricter, isOne := isLoan(a) && isLoan(b), false
	for _, hall := range climatesAround(a, b) {
		forA, forB := breachesBy(a, hall) == 0, breachesBy(b, hall) == 0
		isStricter = isStricter && (forB || !forA)
		isOne = isOne || forA && forB
		if ok && (impl.Breaches(joined, hall) == 0) != (forA && forB) {
			t.Fatalf("JoinLoans(%v, %v) = %v; Breaches(%v) = %d, but %v and %v", a, b, joined, hall, impl.Breaches(joined, hall), forA, forB)
		}
		if (len(impl.HallsFor(a, []impl.Climate{hall})) == 1) != forA {
			t.Fatalf("HallsFor(%v, %v) is not %v", a, hall, forA)
		}
	}
	if ok != isOne || !ok && joined != (impl.Loan{}) {
		t.Fatalf("JoinLoans(%v, %v) = %v, %v; fit for both: %v", a, b, joined, ok, isOne)
	}
	if got := impl.Stricter(a, b); got != isStricter {
		t.Fatalf("Stricter(%v, %v) = %v", a, b, got)
	}
	return ok, isStricter
}

// Promise 33: a hall is fit for both loans just if it is fit for the joined one.
func TestLoansMany(t *testing.T) {
	list := append(goodLoans(), badLoans()...)
	for _, a := range list {
		for _, b := range list {
			checkTwoLoans(t, a, b)
		}
	}
	source, counts := rand.New(rand.NewSource(133)), map[string]int{}
	for range 3000 {
		var pair [2]impl.Loan
		for k := range pair {
			low := source.Intn(8)
			pair[k] = impl.Loan{Light: source.Intn(4), Low: low, High: low + source.Intn(6) - 1, Guards: source.Intn(3)}
		}
		joined, isStricter := checkTwoLoans(t, pair[0], pair[1])
		if joined {
			counts["joined"]++
		} else {
			counts["not joined"]++
		}
		if isStricter {
			counts["stricter"]++
		}
	}
	if counts["joined"] < 500 || counts["not joined"] < 500 || counts["stricter"] < 100 {
		t.Errorf("too few loans can be joined, or not, or are stricter: %v", counts)
	}
}

func TestLoansInvalid(t *testing.T) {
	for _, bad := range badLoans() {
		for _, good := range append(goodLoans(), bad) {
			if impl.Stricter(bad, good) || impl.Stricter(good, bad) {
				t.Errorf("Stricter(%v, %v) = true, or back", bad, good)
			}
			for _, pair := range [][2]impl.Loan{{bad, good}, {good, bad}} {
				if got, ok := impl.JoinLoans(pair[0], pair[1]); got != (impl.Loan{}) || ok {
					t.Errorf("JoinLoans(%v, %v) = %v, %v", pair[0], pair[1], got, ok)
				}
			}
		}
		halls := climates(0, 50, 1000, bad.Light, bad.Low, bad.Guards, 0, 0, 0)
		if got := impl.HallsFor(bad, halls); len(got) != 0 {
			t.Errorf("HallsFor(%v, %v) = %v", bad, halls, got)
		}
		if got := impl.HallsFor(bad, nil); len(got) != 0 {
			t.Errorf("HallsFor(%v, nil) = %v", bad, got)
		}
	}
}

func TestLoanArguments(t *testing.T) {
	all := climates(50, 50, 5, 0, 50, 1, 100, 40, 2, 0, 39, 2, 101, 50, 2)
	before := slices.Clone(all)
	for n := range len(all) {
		for _, l := range append(goodLoans(), impl.Loan{Low: -1}) {
			checkNumbersNew(t, func() []int { return impl.HallsFor(l, all[:n]) })
		}
	}
	if !slices.Equal(all, before) {
		t.Errorf("HallsFor changes its halls: %v", all)
	}
}
