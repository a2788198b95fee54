package tests

import (
	"math"
	"math/big"
	"math/rand"
	"slices"
	"strings"
	"testing"

	"loop.example/g00991/impl"
)

// digestBy adds up the powers of 257 in whole numbers of any size; the program goes from byte to byte.
func digestBy(text string) int {
	if len(text) > 200 {
		return -1
	}
	power := func(n int) *big.Int { return new(big.Int).Exp(big.NewInt(257), big.NewInt(int64(n)), nil) }
	sum := new(big.Int).Mul(big.NewInt(7), power(len(text)))
	for k := range len(text) {
		sum.Add(sum, new(big.Int).Mul(big.NewInt(int64(text[k])+1), power(len(text)-1-k)))
	}
	return int(sum.Mod(sum, big.NewInt(1000003)).Int64())
}

func sealBy(seal int, moment int, text string) int {
	digest := digestBy(text)
	if seal != min(max(seal, 0), 1000002) || moment != min(max(moment, 0), 1000000) || digest < 0 {
		return -1
	}
	return (seal*1009%1000003 + moment*31%1000003 + digest) % 1000003
}

// sealed returns a record with these texts, the first one at the moment 0 and each other one a moment later.
func sealed(texts ...string) []impl.Entry {
	seal := 1
	var record []impl.Entry
	for moment, text := range texts {
		seal = sealBy(seal, moment, text)
		record = append(record, impl.Entry{Moment: moment, Text: text, Seal: seal})
	}
	return record
}

// sealedTimes returns a record of n entries with the same text and moment.
func sealedTimes(n int, moment int, text string) []impl.Entry {
	var record []impl.Entry
	for seal := 1; len(record) < n; {
		seal = sealBy(seal, moment, text)
		record = append(record, impl.Entry{Moment: moment, Text: text, Seal: seal})
	}
	return record
}

func withEntry(record []impl.Entry, k int, e impl.Entry) []impl.Entry {
	record = slices.Clone(record)
	record[k] = e
	return record
}

// brokenBy computes all seals first.
func brokenBy(record []impl.Entry) int {
	seals := []int{1}
	for _, e := range record {
		seals = append(seals, e.Seal)
	}
	for k, e := range record {
		want := sealBy(seals[k], e.Moment, e.Text)
		if want == -1 || want != seals[k+1] || k > 0 && record[k-1].Moment > e.Moment {
			return k
		}
	}
	return -1
}

func someTexts() []string {
	texts := []string{"", "a", "b", "ab", "ba", "move 0 1 0 1", "\x00", "\x00\x00", "\xff", "\xff\xff\xff", "é", "e\u0301", "\ufffd", "\xef\xbf", "\xef\xbf\xbd\xbd", "a\x80b", "\xc3", "\xa9", "\xf0\x9f\x8e\xa8", "\xf0\x9f\x8e", "\xed\xa0\x80", "a\nb c", "世界"}
	for _, n := range []int{199, 200} {
		texts = append(texts, strings.Repeat("z", n), strings.Repeat("\xff", n), strings.Repeat("\x00", n), strings.Repeat("é", n/2), strings.Repeat("\x80a", n/2))
	}
	return texts
}

func longTexts() []string {
	return []string{strings.Repeat("z", 201), strings.Repeat("\xff", 201), strings.Repeat("é", 101), strings.Repeat("世", 67), strings.Repeat("a", 20000)}
}

func TestSealLimits(t *testing.T) {
	if impl.SealBase != 1009 || impl.SealSize != 1000003 {
		t.Error("a number of chapter 30 differs from the document")
	}
}

func TestDigestOf(t *testing.T) {
	for _, c := range []struct {
		text string
		want int
	}{
		{"", 7},
		{"a", 7*257 + 98},
		{"\x00", 7*257 + 1},
		{"\xff", 7*257 + 256},
		{"ab", (7*257+98)*257 + 99},
		{"ba", (7*257+99)*257 + 98},
		{"\xc3\xa9", (7*257+0xc4)*257 + 0xaa},
		{"\xff\x80", (7*257+256)*257 + 0x81},
		{"abc", ((7*257+98)*257+99)*257 + 100 - 125*1000003},
	} {
		if got := impl.DigestOf(c.text); got != c.want || digestBy(c.text) != c.want {
			t.Errorf("DigestOf(%q) = %d; want %d", c.text, got, c.want)
		}
	}
	for _, text := range someTexts() {
		if got := impl.DigestOf(text); got != digestBy(text) {
			t.Errorf("DigestOf(%q) = %d; want %d", text, got, digestBy(text))
		}
	}
	for _, text := range longTexts() {
		if got := impl.DigestOf(text); got != -1 {
			t.Errorf("DigestOf of %d bytes = %d", len(text), got)
		}
	}
}

// All texts of two bytes are tried, whether they are characters or not.
func TestDigestBytes(t *testing.T) {
	for a := range 256 {
		for b := range 256 {
			text := string([]byte{byte(a), byte(b)})
			if got := impl.DigestOf(text); got != (7*257+a+1)*257+b+1 {
				t.Fatalf("DigestOf(%q) = %d", text, got)
			}
		}
	}
	source := rand.New(rand.NewSource(130))
	for range 3000 {
		text := make([]byte, source.Intn(203))
		for k := range text {
			text[k] = byte(source.Intn(256))
		}
		if got := impl.DigestOf(string(text)); got != digestBy(string(text)) {
			t.Fatalf("DigestOf(%q) = %d; want %d", text, got, digestBy(string(text)))
		}
	}
}

func TestSealAfter(t *testing.T) {
	for _, c := range []struct {
		seal, moment int
		text         string
		want         int
	}{
		{1, 0, "", 1016},
		{1, 1, "", 1047},
		{0, 0, "", 7},
		{1016, 5, "a", 1016*1009 + 155 + 1897 - 1000003},
		{1000002, 0, "", 1000003 - 1009 + 7},
		{0, 1000000, "", 1000000*31%1000003 + 7},
		{0, 999999, "", 999999*31%1000003 + 7},
		{1000002, 1000000, "\xff", (1000002*1009 + 1000000*31 + 7*257 + 256) % 1000003},
		{1000003, 0, "", -1},
		{1000004, 0, "", -1},
		{-1, 0, "", -1},
		{1, 1000001, "", -1},
		{1, -1, "", -1},
		{1, 0, strings.Repeat("a", 201), -1},
	} {
		if got := impl.SealAfter(c.seal, c.moment, c.text); got != c.want || sealBy(c.seal, c.moment, c.text) != c.want {
			t.Errorf("SealAfter(%d, %d, %q) = %d; want %d", c.seal, c.moment, c.text, got, c.want)
		}
	}
	for _, text := range append(someTexts(), longTexts()...) {
		for _, seal := range append(outside(0, 1000002), 0, 1, 2, 1016, 500000, 1000001, 1000002) {
			for _, moment := range append(outside(0, 1000000), 0, 1, 31, 999999, 1000000) {
				if got := impl.SealAfter(seal, moment, text); got != sealBy(seal, moment, text) {
					t.Fatalf("SealAfter(%d, %d, %q) = %d; want %d", seal, moment, text, got, sealBy(seal, moment, text))
				}
			}
		}
	}
}

func TestAppendEntry(t *testing.T) {
	three := sealed("one", "", "three")
	for _, c := range []struct {
		name   string
		record []impl.Entry
		moment int
		text   string
		ok     bool
	}{
		{"the first entry", nil, 0, "", true},
		{"the first entry, later", nil, 1000000, "a", true},
		{"the first entry, but memory", []impl.Entry{}, 3, "a", true},
		{"too late", nil, 1000001, "a", false},
		{"before the moment 0", nil, -1, "a", false},
		{"the greatest moment", nil, math.MaxInt, "a", false},
		{"the least moment", nil, math.MinInt, "a", false},
		{"a fourth entry", three, 7, "four", true},
		{"an equal moment", three, 2, "four", true},
		{"an earlier moment", three, 1, "four", false},
		{"the moment of the first entry", three, 0, "four", false},
		{"a long text", three, 2, strings.Repeat("\xff", 200), true},
		{"a text that is too long", three, 2, strings.Repeat("a", 201), false},
		{"a text that is too long in bytes", three, 2, strings.Repeat("é", 101), false},
		{"29 entries", sealedTimes(29, 4, "x"), 4, "last", true},
		{"30 entries", sealedTimes(30, 4, "x"), 4, "last", false},
		{"31 entries", sealedTimes(31, 4, "x"), 4, "last", false},
		{"a broken record", withEntry(three, 1, impl.Entry{Moment: 1, Text: "x", Seal: three[1].Seal}), 7, "four", false},
		{"a broken seal at the end", withEntry(three, 2, impl.Entry{Moment: 2, Text: "three", Seal: 5}), 7, "four", false},
		{"a record that begins late", three[1:], 7, "four", false},
		{"moments at the limit", sealedTimes(3, 1000000, "x"), 1000000, "x", true},
		{"moments at the limit, an earlier one", sealedTimes(3, 1000000, "x"), 999999, "x", false},
	} {
		before := slices.Clone(c.record)
		got, ok := impl.AppendEntry(c.record, c.moment, c.text)
		want := slices.Clone(c.record)
		if c.ok {
			want = append(want, impl.Entry{Moment: c.moment, Text: c.text, Seal: sealBy(impl.LastSeal(c.record), c.moment, c.text)})
		}
		if ok != c.ok || !slices.Equal(got, want) || !slices.Equal(c.record, before) {
			t.Errorf("%s: AppendEntry(%v, %d, %q) = %v, %v; want %v, %v", c.name, c.record, c.moment, c.text, got, ok, want, c.ok)
		}
	}
}

func TestFirstBroken(t *testing.T) {
	three, long := sealed("one", "", "three"), strings.Repeat("a", 201)
	late := []impl.Entry{{Moment: 5, Text: "x", Seal: sealBy(1, 5, "x")}}
	back := append(slices.Clone(late), impl.Entry{Moment: 4, Text: "y", Seal: sealBy(late[0].Seal, 4, "y")})
	for _, c := range []struct {
		name     string
		record   []impl.Entry
		broken   int
		isSealed bool
		last     int
	}{
		{"no entries", nil, -1, true, 1},
		{"no entries, but memory", []impl.Entry{}, -1, true, 1},
		{"the empty text", sealed(""), -1, true, 1016},
		{"three entries", three, -1, true, three[2].Seal},
		{"the second one alone", three[1:2], 0, false, three[1].Seal},
		{"the first one is missing", three[1:], 0, false, three[2].Seal},
		{"the second one is missing", slices.Delete(slices.Clone(three), 1, 2), 1, false, three[2].Seal},
		{"the last one is missing", three[:2], -1, true, three[1].Seal},
		{"an entry twice", append(slices.Clone(three), three[2]), 3, false, three[2].Seal},
		{"two entries exchanged", []impl.Entry{three[1], three[0], three[2]}, 0, false, three[2].Seal},
		{"the last two exchanged", []impl.Entry{three[0], three[2], three[1]}, 1, false, three[1].Seal},
		{"an entry that is all 0", []impl.Entry{{}}, 0, false, 0},
		{"an earlier moment with its seal", back, 1, false, back[1].Seal},
		{"an equal moment", sealedTimes(2, 5, "x"), -1, true, sealedTimes(2, 5, "x")[1].Seal},
		{"a text that is too long, and the seal -1", []impl.Entry{{Text: long, Seal: -1}}, 0, false, -1},
		{"a text that is too long behind others, and the seal -1", append(slices.Clone(three), impl.Entry{Moment: 9, Text: long, Seal: -1}), 3, false, -1},
		{"a moment that is too late, and the seal -1", []impl.Entry{{Moment: 1000001, Seal: -1}}, 0, false, -1},
		{"a moment below 0, and the seal -1", []impl.Entry{{Moment: -1, Seal: -1}}, 0, false, -1},
		{"the greatest numbers", []impl.Entry{{Moment: math.MaxInt, Seal: math.MaxInt}}, 0, false, math.MaxInt},
		{"the least numbers", []impl.Entry{{Moment: math.MinInt, Seal: math.MinInt}}, 0, false, math.MinInt},
		{"29 entries", sealedTimes(29, 4, "x"), -1, true, sealedTimes(29, 4, "x")[28].Seal},
		{"30 entries", sealedTimes(30, 4, "x"), -1, true, sealedTimes(30, 4, "x")[29].Seal},
		{"31 entries", sealedTimes(31, 4, "x"), -1, false, sealedTimes(31, 4, "x")[30].Seal},
		{"300 entries, the last one broken", withEntry(sealedTimes(300, 4, "x"), 299, impl.Entry{Moment: 4, Text: "x"}), 299, false, 0},
	} {
		if got := impl.FirstBroken(c.record); got != c.broken || brokenBy(c.record) != c.broken {
			t.Errorf("%s: FirstBroken(%v) = %d; want %d", c.name, c.record, got, c.broken)
		}
		if got := impl.IsSealed(c.record); got != c.isSealed {
			t.Errorf("%s: IsSealed(%v) = %v", c.name, c.record, got)
		}
		if got := impl.LastSeal(c.record); got != c.last {
			t.Errorf("%s: LastSeal(%v) = %d; want %d", c.name, c.record, got, c.last)
		}
	}
}

// spoiledEntries are the entry with each of its fields changed, a text in one byte.
func spoiledEntries(e impl.Entry, source *rand.Rand) []impl.Entry {
	var list []impl.Entry
	for _, n := range append(outside(0, 1000000), e.Moment-1, e.Moment+1, 0, 1000000) {
		if n != e.Moment {
			list = append(list, impl.Entry{Moment: n, Text: e.Text, Seal: e.Seal})
		}
	}
	for _, n := range append(outside(0, 1000002), e.Seal-1, e.Seal+1, 0, 1000002, e.Seal+1000003, e.Seal-1000003) {
		if n != e.Seal {
			list = append(list, impl.Entry{Moment: e.Moment, Text: e.Text, Seal: n})
		}
	}
	for k := range len(e.Text) {
		text := []byte(e.Text)
		text[k] += byte(1 + source.Intn(255))
		list = append(list, impl.Entry{Moment: e.Moment, Text: string(text), Seal: e.Seal})
	}
	for _, text := range []string{e.Text + "\x00", e.Text + "a", "\x00" + e.Text, strings.Repeat("b", 201)} {
		list = append(list, impl.Entry{Moment: e.Moment, Text: text, Seal: e.Seal})
	}
	return list
}

// Promise 30: no entry can be changed unnoticed.
func TestRecordsMany(t *testing.T) {
	source := rand.New(rand.NewSource(131))
	for range 150 {
		var record []impl.Entry
		moment := source.Intn(3)
		for range source.Intn(31) {
			text := make([]byte, source.Intn(12))
			for k := range text {
				text[k] = byte(source.Intn(256))
			}
			next, ok := impl.AppendEntry(record, moment, string(text))
			if !ok || len(next) != len(record)+1 || brokenBy(next) != -1 || !slices.Equal(next[:len(record)], record) {
				t.Fatalf("AppendEntry(%v, %d, %q) = %v, %v", record, moment, text, next, ok)
			}
			record, moment = next, moment+source.Intn(4)
		}
		if !impl.IsSealed(record) || impl.FirstBroken(record) != -1 {
			t.Fatalf("IsSealed(%v) = false", record)
		}
		for k, e := range record {
			for _, other := range spoiledEntries(e, source) {
				spoiled := withEntry(record, k, other)
				if impl.FirstBroken(spoiled) != k || impl.IsSealed(spoiled) {
					t.Fatalf("FirstBroken(%v) = %d; %v was %v", spoiled, impl.FirstBroken(spoiled), other, e)
				}
				if got, ok := impl.AppendEntry(spoiled, 1000, "x"); ok || !slices.Equal(got, spoiled) {
					t.Fatalf("AppendEntry(%v) = %v, %v", spoiled, got, ok)
				}
			}
		}
	}
}

// textWith looks for a text of three bytes with a digest.
func textWith(digest int) string {
	for n := range 1 << 24 {
		text := string([]byte{byte(n >> 16), byte(n >> 8), byte(n)})
		if (((7*257+n>>16+1)*257+n>>8&255+1)*257+n&255+1)%1000003 == digest {
			return text
		}
	}
	return ""
}

// A digest and a seal can be 0, and a seal SealSize - 1.
func TestSealZero(t *testing.T) {
	for _, digest := range []int{0, 1, 1000002} {
		text := textWith(digest)
		if impl.DigestOf(text) != digest || digestBy(text) != digest {
			t.Fatalf("DigestOf(%q) = %d; want %d", text, impl.DigestOf(text), digest)
		}
		if got := impl.SealAfter(0, 0, text); got != digest {
			t.Errorf("SealAfter(0, 0, %q) = %d; want %d", text, got, digest)
		}
		if record, ok := impl.AppendEntry(nil, 0, text); !ok || record[0].Seal != (1009+digest)%1000003 || !impl.IsSealed(record) {
			t.Errorf("AppendEntry(%q) = %v, %v", text, record, ok)
		}
	}
	for _, seal := range []int{0, 1, 1000002} {
		text := textWith((seal + 1000003 - 1009) % 1000003)
		record, ok := impl.AppendEntry(nil, 0, text)
		next, isNext := impl.AppendEntry(record, 0, "x")
		if !ok || !isNext || record[0].Seal != seal || !impl.IsSealed(next) || impl.FirstBroken(next) != -1 || impl.LastSeal(record) != seal {
			t.Errorf("AppendEntry(%q) = %v, %v; and then %v, %v", text, record, ok, next, isNext)
		}
	}
}

// Two texts with the same digest have the same seal: only such texts can be exchanged.
func TestDigestTwins(t *testing.T) {
	first := map[int]string{}
	for n := range 1 << 21 {
		text := string([]byte{byte(n >> 16), byte(n >> 8), byte(n)})
		digest := impl.DigestOf(text)
		if twin, isThere := first[digest]; isThere {
			record := withEntry(sealed("x", text, "y"), 1, impl.Entry{Moment: 1, Text: twin, Seal: sealed("x", text)[1].Seal})
			if digestBy(twin) != digestBy(text) || !impl.IsSealed(record) {
				t.Errorf("%q and %q have the digest %d", twin, text, digest)
			}
			return
		}
		first[digest] = text
	}
	t.Error("no two texts of three bytes have the same digest")
}

func TestRecordsAreNew(t *testing.T) {
	for _, moment := range []int{29, 0, -1, 40} {
		for n := range 31 {
			all := append(sealedTimes(n, 29, "x"), impl.Entry{Moment: 71, Text: "spare", Seal: 72})
			before := slices.Clone(all)
			got, ok := impl.AppendEntry(all[:n], moment, "y")
			want := slices.Clone(got)
			spoil(got, impl.Entry{Moment: -99})
			if !slices.Equal(all, before) {
				t.Fatalf("AppendEntry with %d entries changes its record, or shares it: %v", n, all)
			}
			if again, isAgain := impl.AppendEntry(all[:n], moment, "y"); isAgain != ok || !slices.Equal(again, want) {
				t.Fatalf("AppendEntry with %d entries = %v; was %v", n, again, want)
			}
			impl.FirstBroken(all[:n])
			impl.IsSealed(all[:n])
			impl.LastSeal(all[:n])
			if !slices.Equal(all, before) {
				t.Fatalf("a function changes its record: %v", all)
			}
		}
	}
}
