package seq

import (
	"errors"
	"math"
	"math/big"
	"math/rand"
	"regexp"
	"slices"
	"strings"
	"testing"

	"letterbox/api"
)

// ranges makes some of their numbers, two a range.
func ranges(numbers ...int) []api.Range {
	var out []api.Range
	for i := 0; i < len(numbers); i += 2 {
		out = append(out, api.Range{From: numbers[i], To: numbers[i+1]})
	}
	return out
}

// repeated is a range so many times.
func repeated(r api.Range, times int) []api.Range {
	return slices.Repeat([]api.Range{r}, times)
}

// isPlain says whether an error is just that Errno, with no place.
func isPlain(err error, want api.Errno) bool {
	var at *api.At
	return api.Tell(err) == want && !errors.As(err, &at)
}

// pairs: sets and how they are written.
var pairs = []struct {
	set     []api.Range
	written string
}{
	// ordinary ones
	{ranges(1, 1), "1"},
	{ranges(2, 3, 7, 0), "2:3,7:*"}, // the document's example 2
	{ranges(1, 1, 3, 3), "1,3"},
	{ranges(10, 200, 4, 4, 30, 31), "10:200,4,30:31"},
	// * alone and in a range, on either side
	{ranges(0, 0), "*"},
	{ranges(1, 0), "1:*"},
	{ranges(0, 2), "*:2"},
	{ranges(0, 0, 0, 0), "*,*"},
	// From and To in either order; nothing is sorted, joined or dropped
	{ranges(3, 2), "3:2"},
	{ranges(5, 5, 5, 5, 1, 9, 9, 1), "5,5,1:9,9:1"},
	// numbers with a nought inside and behind
	{ranges(10, 101), "10:101"},
	// the greatest number and that below it
	{ranges(api.MaxNumber, api.MaxNumber), "2147483647"},
	{ranges(1, api.MaxNumber, api.MaxNumber, 1), "1:2147483647,2147483647:1"},
	{ranges(api.MaxNumber-1, 0, 0, api.MaxNumber), "2147483646:*,*:2147483647"},
	// as many as there may be
	{repeated(api.Range{From: 1, To: 1}, api.MaxRanges-1), "1" + strings.Repeat(",1", api.MaxRanges-2)},
	{repeated(api.Range{From: 1, To: 0}, api.MaxRanges), "1:*" + strings.Repeat(",1:*", api.MaxRanges-1)},
}

func TestPairs(t *testing.T) {
	for _, p := range pairs {
		if !Right(p.set) {
			t.Errorf("Right(%v) is false", p.set)
		}
		written, err := Print(p.set)
		if written != p.written || err != nil {
			t.Errorf("Print(%v) = %q, %v, not %q", p.set, written, err, p.written)
		}
		set, err := Parse(p.written)
		if !slices.Equal(set, p.set) || err != nil {
			t.Errorf("Parse(%q) = %v, %v, not %v", p.written, set, err, p.set)
		}
	}
}

// TestParseSame: two numbers that are the same may be said, though they are not written so.
func TestParseSame(t *testing.T) {
	for s, want := range map[string][]api.Range{
		"4:4":                     ranges(4, 4),
		"*:*":                     ranges(0, 0),
		"1,2147483647:2147483647": ranges(1, 1, api.MaxNumber, api.MaxNumber),
	} {
		if got, err := Parse(s); !slices.Equal(got, want) || err != nil {
			t.Errorf("Parse(%q) = %v, %v, not %v", s, got, err, want)
		}
	}
}

// wrongSets may not be.
var wrongSets = [][]api.Range{
	nil,
	{},
	repeated(api.Range{From: 1, To: 1}, api.MaxRanges+1),
	ranges(-1, 1),
	ranges(1, -1),
	ranges(0, -1),
	ranges(api.MaxNumber+1, 1),
	ranges(1, api.MaxNumber+1),
	ranges(math.MinInt, 1),
	ranges(1, math.MaxInt),
	// the first one, or the last one, alone is wrong
	ranges(-1, -1, 1, 1, 2, 3),
	ranges(1, 1, 2, 3, 4, -4),
	append(repeated(api.Range{From: 1, To: 1}, api.MaxRanges-1), api.Range{From: 1, To: api.MaxNumber + 1}),
}

func TestWrongSets(t *testing.T) {
	for _, l := range wrongSets {
		if Right(l) {
			t.Errorf("Right(%v) is true", l)
		}
		if s, err := Print(l); s != "" || !isPlain(err, api.ErrArg) {
			t.Errorf("Print(%v) = %q, %v", l, s, err)
		}
	}
}

// wrongTexts are of no form.
var wrongTexts = []string{
	// nothing, and nothing between commas
	"", ",", "1,", ",1", "1,,2", "1,2,", "*,",
	// no number on one side, or more than one :
	":", "1:", ":1", "*:", ":*", "1:2:3", "1::2", "1:2:", ":1:2", "*:*:*",
	// 0, noughts ahead, signs
	"0", "00", "01", "1:0", "0:1", "1:02", "1,0", "+1", "-1", "1:-2", "-0",
	// beyond the greatest number, and so far beyond that it goes round
	"2147483648", "2147483650", "2147483657", "1:2147483648", "2147483648:1", "3000000000", "21474836470", "4294967297",
	"9223372036854775808", "18446744073709551617", "1" + strings.Repeat("0", 1000), "340282366920938463463374607431768211457",
	// other letters, and blanks
	"a", "1a", "a1", "1:a", "1;2", "1.2", "1-2", "0x1", "1_0", "1e3", "\x00", "1\x00", "\xff",
	"/", "1/", "1:1:", " ", " 1", "1 ", "1, 2", "1 :2", "1\n", "\u0661", "\uff11",
	// what is more than *
	"**", "*1", "1*", "*a", "1:**", "1:*2",
}

func TestWrongTexts(t *testing.T) {
	for _, s := range wrongTexts {
		for _, s := range []string{s, "1," + s, s + ",1"} {
			if l, err := Parse(s); l != nil || !isPlain(err, api.ErrForm) {
				t.Errorf("Parse(%q) = %v, %v", s, l, err)
			}
		}
	}
}

// TestParseFirst: of ErrForm and ErrLimit, what comes first from the left.
func TestParseFirst(t *testing.T) {
	full := "1" + strings.Repeat(",1", api.MaxRanges-1)
	almost := "1" + strings.Repeat(",1", api.MaxRanges-2)
	for _, c := range []struct {
		s    string
		want api.Errno
	}{
		{full, api.OK},
		{almost, api.OK},
		{full + ",1", api.ErrLimit},
		{full + ",*", api.ErrLimit},
		{full + ",2:*", api.ErrLimit},
		{full + strings.Repeat(",1", 100), api.ErrLimit},
		// one that is none, behind MaxRanges others
		{full + ",", api.ErrForm},
		{full + ",0", api.ErrForm},
		{full + ",x", api.ErrForm},
		{full + ",1:2:3", api.ErrForm},
		{full + ",2147483648", api.ErrForm},
		// one too many, ahead of one that is none
		{full + ",1,", api.ErrLimit},
		{full + ",1,x", api.ErrLimit},
		{full + ",1,,", api.ErrLimit},
		// one that is none, ahead of one too many
		{full + ",x,1", api.ErrForm},
		{almost + ",x,1", api.ErrForm},
		{"x," + full, api.ErrForm},
		{almost + ",0", api.ErrForm},
	} {
		l, err := Parse(c.s)
		if !isPlain(err, c.want) || err != nil && l != nil {
			t.Errorf("Parse(%q) = %v, %v, not %v", c.s, l, err, c.want)
		}
	}
}

// piece: the form of one range, as a rule.
var piece = regexp.MustCompile(`^(\*|[1-9][0-9]*)(?::(\*|[1-9][0-9]*))?$`)

// toldNumber reads a number of a piece by big ones.
func toldNumber(s string) (int, bool) {
	if s == "*" {
		return 0, true
	}
	n, ok := new(big.Int).SetString(s, 10)
	if !ok || n.Cmp(big.NewInt(api.MaxNumber)) > 0 {
		return 0, false
	}
	return int(n.Int64()), true
}

// toldParse is what the document asks of Parse.
func toldParse(s string) ([]api.Range, api.Errno) {
	var out []api.Range
	for i, one := range strings.Split(s, ",") {
		m := piece.FindStringSubmatch(one)
		if m == nil {
			return nil, api.ErrForm
		}
		from, ok := toldNumber(m[1])
		to, also := from, true
		if m[2] != "" {
			to, also = toldNumber(m[2])
		}
		if !ok || !also {
			return nil, api.ErrForm
		}
		if i >= api.MaxRanges {
			return nil, api.ErrLimit
		}
		out = append(out, api.Range{From: from, To: to})
	}
	return out, api.OK
}

// checkParse holds Parse against what the document asks, and what it reads against Print.
func checkParse(t *testing.T, s string) {
	t.Helper()
	want, e := toldParse(s)
	got, err := Parse(s)
	if !slices.Equal(got, want) || !isPlain(err, e) {
		t.Fatalf("Parse(%q) = %v, %v, not %v, %v", s, got, err, want, e)
	}
	if err != nil {
		return
	}
	if !Right(got) {
		t.Fatalf("Right(%v) is false", got)
	}
	written, err := Print(got)
	again, e2 := Parse(written)
	if err != nil || e2 != nil || !slices.Equal(again, got) || len(written) > len(s) {
		t.Fatalf("%v is written %q, %v and read %v, %v", got, written, err, again, e2)
	}
}

// TestParseDrawn: drawn pieces, with a letter changed here and there.
func TestParseDrawn(t *testing.T) {
	d := rand.New(rand.NewSource(2))
	parts := []string{"1", "9", "*", "1:*", "*:7", "12:3", "4:4", "2147483647", "2147483646:2147483647", "2147483648", "0", "", "1:2:3"}
	for range 20000 {
		var l []string
		most := 9 // mostly right ones
		if d.Intn(4) == 0 {
			most = len(parts)
		}
		for range 1 + d.Intn(api.MaxRanges+3) {
			l = append(l, parts[d.Intn(most)])
		}
		b := []byte(strings.Join(l, ","))
		if len(b) > 0 && d.Intn(3) == 0 {
			b[d.Intn(len(b))] = "0129,:*x-+ "[d.Intn(11)]
		}
		checkParse(t, string(b))
	}
}

// TestParseAll: every text of up to five letters out of some.
func TestParseAll(t *testing.T) {
	const of = "012,:*x"
	l := []string{""}
	for range 6 {
		var next []string
		for _, s := range l {
			checkParse(t, s)
			for i := range len(of) {
				next = append(next, s+of[i:i+1])
			}
		}
		l = next
	}
}

func FuzzParse(f *testing.F) {
	for _, p := range pairs {
		f.Add(p.written)
	}
	for _, s := range wrongTexts {
		f.Add(s)
	}
	f.Fuzz(checkParse)
}

// TestPrintDrawn: every right set is read as it was.
func TestPrintDrawn(t *testing.T) {
	d := rand.New(rand.NewSource(3))
	number := func() int {
		return []int{0, 1, 2, 9, 10, d.Intn(api.MaxNumber), api.MaxNumber - 1, api.MaxNumber}[d.Intn(8)]
	}
	for range 5000 {
		var l []api.Range
		for range 1 + d.Intn(api.MaxRanges) {
			l = append(l, api.Range{From: number(), To: number()})
		}
		s, err := Print(l)
		if err != nil {
			t.Fatalf("Print(%v): %v", l, err)
		}
		if again, err := Parse(s); err != nil || !slices.Equal(again, l) {
			t.Fatalf("%v is written %q and read %v, %v", l, s, again, err)
		}
	}
}

func TestHas(t *testing.T) {
	for _, c := range []struct {
		set         []api.Range
		n, greatest int
		want        bool
	}{
		// the document's example 2
		{ranges(2, 3, 7, 0), 1, 9, false},
		{ranges(2, 3, 7, 0), 2, 9, true},
		{ranges(2, 3, 7, 0), 3, 9, true},
		{ranges(2, 3, 7, 0), 4, 9, false},
		{ranges(2, 3, 7, 0), 6, 9, false},
		{ranges(2, 3, 7, 0), 7, 9, true},
		{ranges(2, 3, 7, 0), 9, 9, true},
		{ranges(2, 3, 7, 0), 10, 9, false},
		// the greatest one is below the other one
		{ranges(7, 0), 5, 5, true},
		{ranges(7, 0), 6, 5, true},
		{ranges(7, 0), 7, 5, true},
		{ranges(7, 0), 4, 5, false},
		{ranges(7, 0), 8, 5, false},
		// * alone, and on the left
		{ranges(0, 0), 5, 5, true},
		{ranges(0, 0), 4, 5, false},
		{ranges(0, 0), 6, 5, false},
		{ranges(0, 3), 4, 5, true},
		{ranges(0, 3), 2, 5, false},
		{ranges(0, 3), 6, 5, false},
		// 0 as a number is 0, and not the greatest one
		{ranges(0, 0), 0, 5, false},
		{ranges(1, 0), 0, 5, false},
		{ranges(5, 5), 0, 5, false},
		// the greatest one is 0
		{ranges(0, 0), 0, 0, true},
		{ranges(0, 0), 1, 0, false},
		{ranges(0, 0), -1, 0, false},
		{ranges(2, 0), 0, 0, true},
		{ranges(2, 0), 1, 0, true},
		{ranges(2, 0), 2, 0, true},
		{ranges(2, 0), 3, 0, false},
		{ranges(1, 1), 0, 0, false},
		// either order; numbers beyond the greatest one are as good
		{ranges(6, 4), 5, 1, true},
		{ranges(6, 4), 4, 9, true},
		{ranges(6, 4), 6, 9, true},
		{ranges(6, 4), 3, 9, false},
		{ranges(6, 4), 7, 9, false},
		// only the last one has it, only the first one has it, none
		{ranges(1, 1, 3, 3, 8, 9), 8, 9, true},
		{ranges(8, 9, 1, 1, 3, 3), 8, 9, true},
		{ranges(1, 1, 3, 3, 8, 9), 2, 9, false},
		{nil, 0, 0, false},
		{nil, 1, 1, false},
		// the ends
		{ranges(1, api.MaxNumber), api.MaxNumber, 1, true},
		{ranges(1, api.MaxNumber), api.MaxNumber + 1, 1, false},
		{ranges(math.MinInt, math.MaxInt), 0, 1, true},
		{ranges(math.MaxInt, math.MinInt), math.MinInt, 1, true},
		{ranges(1, 0), math.MaxInt, math.MaxInt, true},
		{ranges(1, 0), -3, -5, true},
		{ranges(1, 0), -6, -5, false},
	} {
		if got := Has(c.set, c.n, c.greatest); got != c.want {
			t.Errorf("Has(%v, %d, %d) = %v", c.set, c.n, c.greatest, got)
		}
	}
}

// TestHasAll: of all small ranges, just the numbers that are gone through from one end to the other one.
func TestHasAll(t *testing.T) {
	for from := range 6 {
		for to := range 6 {
			for greatest := range 6 {
				var in [8]bool
				a, b := from, to
				if a == 0 {
					a = greatest
				}
				if b == 0 {
					b = greatest
				}
				for in[a] = true; a != b; in[a] = true {
					if a < b {
						a++
					} else {
						a--
					}
				}
				for n, want := range in {
					if got := Has(ranges(from, to), n, greatest); got != want {
						t.Errorf("Has(%d:%d, %d, %d) = %v", from, to, n, greatest, got)
					}
				}
			}
		}
	}
}

func TestOf(t *testing.T) {
	many := make([]int, 0, 50)
	var alone []api.Range
	for i := range 50 { // more ranges than a set may have are told, too
		many = append(many, 2*i+1)
		alone = append(alone, api.Range{From: 2*i + 1, To: 2*i + 1})
	}
	for _, c := range []struct {
		l    []int
		want []api.Range
	}{
		{nil, nil},
		{[]int{}, nil},
		{[]int{1}, ranges(1, 1)},
		{[]int{2}, ranges(2, 2)},
		{[]int{1, 2}, ranges(1, 2)},
		{[]int{1, 3}, ranges(1, 1, 3, 3)},
		{[]int{1, 2, 3, 5, 8, 9}, ranges(1, 3, 5, 5, 8, 9)},
		{[]int{2, 4, 5, 6}, ranges(2, 2, 4, 6)},
		{[]int{api.MaxNumber - 1, api.MaxNumber}, ranges(api.MaxNumber-1, api.MaxNumber)},
		{[]int{1, api.MaxNumber}, ranges(1, 1, api.MaxNumber, api.MaxNumber)},
		{[]int{math.MaxInt - 1, math.MaxInt}, ranges(math.MaxInt-1, math.MaxInt)},
		{many, alone},
		// lists that are not as they must be
		{[]int{0}, nil},
		{[]int{0, 1}, nil},
		{[]int{-1, 1}, nil},
		{[]int{1, 1}, nil},
		{[]int{2, 1}, nil},
		{[]int{1, 2, 4, 3}, nil},
		{[]int{math.MinInt}, nil},
		{[]int{math.MaxInt, math.MinInt}, nil},
	} {
		if got := Of(c.l); !slices.Equal(got, c.want) {
			t.Errorf("Of(%v) = %v, not %v", c.l, got, c.want)
		}
	}
}

// TestOfAll: of every choice out of 1 to 12, just these numbers, in ranges that rise and do not touch.
func TestOfAll(t *testing.T) {
	for choice := range 1 << 12 {
		var l []int
		for i := range 12 {
			if choice>>i&1 == 1 {
				l = append(l, i+1)
			}
		}
		got := Of(l)
		for n := range 15 {
			if Has(got, n, 99) != slices.Contains(l, n) {
				t.Fatalf("Of(%v) = %v: %d", l, got, n)
			}
		}
		for i, r := range got {
			if r.From > r.To || i > 0 && r.From <= got[i-1].To+1 {
				t.Fatalf("Of(%v) = %v: range %d", l, got, i)
			}
		}
	}
}

// TestNothingWritten: no list is written into, nor what stands behind it, and answers are fresh memory.
func TestNothingWritten(t *testing.T) {
	full := ranges(3, 1, 0, 2, 9, 9, 7, 8)
	before := slices.Clone(full)
	set := full[:3]
	Right(set)
	Has(set, 5, 7)
	if s, err := Print(set); s != "3:1,*:2,9" || err != nil {
		t.Errorf("Print(%v) = %q, %v", set, s, err)
	}
	if !slices.Equal(full, before) {
		t.Errorf("%v has become %v", before, full)
	}
	numbers := []int{1, 2, 4, 5, 6}
	first := Of(numbers[:3])
	if !slices.Equal(numbers, []int{1, 2, 4, 5, 6}) {
		t.Errorf("the numbers have become %v", numbers)
	}
	second := Of(numbers[:3])
	first[0].To, numbers[0] = 77, 88
	if !slices.Equal(second, ranges(1, 2, 4, 4)) {
		t.Errorf("an answer has become %v", second)
	}
	one, _ := Parse("1,2")
	two, _ := Parse("1,2")
	one[0].From = 5
	if !slices.Equal(two, ranges(1, 1, 2, 2)) {
		t.Errorf("an answer has become %v", two)
	}
}

// TestPieces: what stands between commas, also when it is left off early or asked for again.
func TestPieces(t *testing.T) {
	for _, s := range []string{"", ",", "a", "a,b", "a,,b,", "a:b,c"} {
		want := strings.Split(s, ",")
		all := pieces(s)
		for range 2 {
			if got := slices.Collect(all); !slices.Equal(got, want) {
				t.Errorf("pieces(%q) = %q", s, got)
			}
		}
		for one := range all {
			if one != want[0] {
				t.Errorf("pieces(%q) begins with %q", s, one)
			}
			break
		}
	}
}
