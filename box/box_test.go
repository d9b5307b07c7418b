package box

import (
	"errors"
	"fmt"
	"math"
	"math/rand"
	"slices"
	"sort"
	"strconv"
	"strings"
	"testing"
	"time"

	"letterbox/api"
)

// isPlain says whether an error is just that Errno, with no place.
func isPlain(err error, want api.Errno) bool {
	var at *api.At
	return api.Tell(err) == want && !errors.As(err, &at)
}

// keywords are so many flags that differ, in order.
func keywords(many int) []string {
	var out []string
	for i := range many {
		out = append(out, "k"+strconv.Itoa(100+i))
	}
	return out
}

// boxOf is a box of letters of these numbers, without flags, with one number above the last.
func boxOf(uids ...int) Box {
	b := Box{Valid: 1, Next: 1}
	for _, u := range uids {
		b.Letters = append(b.Letters, api.Letter{UID: u, Day: u % 7, Text: "text " + strconv.Itoa(u)})
		b.Next = u + 1
	}
	return b
}

// upTo are the numbers from 1 to n.
func upTo(n int) []int {
	var out []int
	for i := range n {
		out = append(out, i+1)
	}
	return out
}

// with is a box whose letter of that number has these flags; the box that it was stays as it was.
func with(b Box, uid int, l ...string) Box {
	b.Letters = slices.Clone(b.Letters)
	for i := range b.Letters {
		if b.Letters[i].UID == uid {
			b.Letters[i].Flags = l
		}
	}
	return b
}

// uidsOf are the numbers of a box's letters.
func uidsOf(b Box) []int {
	var out []int
	for _, l := range b.Letters {
		out = append(out, l.UID)
	}
	return out
}

// shown is all that a box is, as a text.
func shown(b Box) string {
	var out strings.Builder
	fmt.Fprintf(&out, "%d %d", b.Valid, b.Next)
	for _, l := range b.Letters {
		fmt.Fprintf(&out, " [%d %q %d %q]", l.UID, l.Flags, l.Day, l.Text)
	}
	return out.String()
}

// written are flags as a text; one that is empty is not written as none.
func written(l []string) string {
	if slices.Contains(l, "") {
		return fmt.Sprintf("%q", l)
	}
	return "(" + strings.Join(l, " ") + ")"
}

// newsShown are news as a text.
func newsShown(l []News) string {
	var out []string
	for _, n := range l {
		switch {
		case n.Kind == Gone && n.Flags == nil:
			out = append(out, "gone "+strconv.Itoa(n.N))
		case n.Kind == Many && n.Flags == nil:
			out = append(out, "many "+strconv.Itoa(n.N))
		case n.Kind == Flags:
			out = append(out, "flags "+strconv.Itoa(n.N)+" "+written(n.Flags))
		default:
			out = append(out, fmt.Sprintf("wrong %v", n))
		}
	}
	return strings.Join(out, ", ")
}

// checkLook holds what Look tells, and what is seen then, against what is wanted.
func checkLook(t *testing.T, v *View, b Box, gone bool, want string, uids ...int) {
	t.Helper()
	if got := newsShown(v.Look(b, gone)); got != want {
		t.Errorf("Look(%v, %v) = %q, not %q", uidsOf(b), gone, got, want)
	}
	if got := v.Uids(); !slices.Equal(got, uids) {
		t.Errorf("behind Look(%v, %v): Uids = %v, not %v", uidsOf(b), gone, got, uids)
	}
}

// TestNumbers: what is done with flags, and kinds of news, have the document's numbers.
func TestNumbers(t *testing.T) {
	if Put != 0 || More != 1 || Less != 2 || Gone != 1 || Many != 2 || Flags != 3 {
		t.Error(Put, More, Less, Gone, Many, Flags)
	}
}

// TestRightNumbers: Valid and Next at their ends (8.1).
func TestRightNumbers(t *testing.T) {
	ends := map[int]bool{math.MinInt: false, -1: false, 0: false, 1: true, 2: true, api.MaxNumber - 1: true, api.MaxNumber: true}
	// Where a number may be so great.
	if beyond := int64(api.MaxNumber) + 1; int64(int(beyond)) == beyond {
		ends[int(beyond)], ends[math.MaxInt] = false, false
	}
	for valid, first := range ends {
		for next, second := range ends {
			if got := Right(Box{Valid: valid, Next: next}); got != (first && second) {
				t.Errorf("Right of Valid %d, Next %d: %v", valid, next, got)
			}
		}
	}
	if Right(Box{}) {
		t.Error("the zero Box is Right")
	}
}

func TestRightMany(t *testing.T) {
	for many, want := range map[int]bool{0: true, 1: true, api.MaxLetters - 1: true, api.MaxLetters: true, api.MaxLetters + 1: false, 2 * api.MaxLetters: false} {
		if got := Right(boxOf(upTo(many)...)); got != want {
			t.Errorf("Right of %d letters: %v", many, got)
		}
	}
}

func TestRightUIDs(t *testing.T) {
	for _, c := range []struct {
		uids []int
		next int
		want bool
	}{
		{[]int{1}, 2, true},
		{[]int{1}, 1, false},
		{[]int{2}, 1, false},
		{[]int{0}, 2, false},
		{[]int{-1}, 2, false},
		{[]int{math.MinInt}, 2, false},
		{[]int{-1, 1}, 2, false},
		{[]int{1, 2, 3}, 4, true},
		{[]int{1, 2, 3}, 3, false},
		{[]int{1, 2, 3}, 9, true},
		{[]int{3, 7, 8}, 9, true},
		{[]int{3, 7, 9}, 9, false},
		{[]int{3, 9, 7}, 10, false},
		{[]int{3, 10, 7}, 10, false},
		{[]int{1, 1}, 9, false},
		{[]int{2, 1}, 9, false},
		{[]int{1, 3, 2}, 9, false},
		{[]int{1, 2, 2}, 9, false},
		{[]int{api.MaxNumber - 1}, api.MaxNumber, true},
		{[]int{api.MaxNumber}, api.MaxNumber, false},
		{[]int{1, api.MaxNumber - 1}, api.MaxNumber, true},
		{[]int{1, math.MaxInt}, api.MaxNumber, false},
	} {
		b := boxOf(c.uids...)
		b.Next = c.next
		for i := range b.Letters {
			b.Letters[i].Day = 0
		}
		if got := Right(b); got != c.want {
			t.Errorf("Right of UIDs %v, Next %d: %v", c.uids, c.next, got)
		}
	}
}

// TestRightLetter: what each letter must be, at each place of a box.
func TestRightLetter(t *testing.T) {
	long := strings.Repeat("k", api.MaxKeyword)
	beyond := math.MaxInt
	for _, c := range []struct {
		l    api.Letter
		want bool
	}{
		{api.Letter{}, true},
		{api.Letter{Flags: []string{}}, true},
		{api.Letter{Flags: []string{`\Seen`}}, true},
		{api.Letter{Flags: []string{`\Seen`, `\Answered`, `\Flagged`, `\Deleted`, `\Draft`, "$", "0", "A", "_", "a"}}, true},
		{api.Letter{Flags: keywords(api.MaxFlags)}, true},
		{api.Letter{Flags: keywords(api.MaxFlags + 1)}, false},
		{api.Letter{Flags: []string{`\Draft`, `\Seen`}}, false},
		{api.Letter{Flags: []string{`\Answered`, `\Seen`}}, false},
		{api.Letter{Flags: []string{"work", `\Seen`}}, false},
		{api.Letter{Flags: []string{"b", "a"}}, false},
		{api.Letter{Flags: []string{"a", "B"}}, false},
		{api.Letter{Flags: []string{"B", "a"}}, true},
		{api.Letter{Flags: []string{"a", "a"}}, false},
		{api.Letter{Flags: []string{`\Seen`, `\Seen`}}, false},
		{api.Letter{Flags: []string{`\seen`}}, false},
		{api.Letter{Flags: []string{`\SEEN`}}, false},
		{api.Letter{Flags: []string{`\Seen`, `\seen`}}, false},
		{api.Letter{Flags: []string{"seen"}}, true},
		{api.Letter{Flags: []string{""}}, false},
		{api.Letter{Flags: []string{`\None`}}, false},
		{api.Letter{Flags: []string{"a-b"}}, false},
		{api.Letter{Flags: []string{"a b"}}, false},
		{api.Letter{Flags: []string{long}}, true},
		{api.Letter{Flags: []string{long + "k"}}, false},
		{api.Letter{Day: 1}, true},
		{api.Letter{Day: -1}, false},
		{api.Letter{Day: math.MinInt}, false},
		{api.Letter{Day: api.MaxNumber}, true},
		{api.Letter{Day: beyond}, beyond == api.MaxNumber},
		{api.Letter{Text: strings.Repeat("\x00", api.MaxMessage)}, true},
		{api.Letter{Text: strings.Repeat("x", api.MaxMessage+1)}, false},
		// Bytes are counted, not letters of several.
		{api.Letter{Text: strings.Repeat("é", api.MaxMessage/2)}, true},
		{api.Letter{Text: strings.Repeat("é", api.MaxMessage/2+1)}, false},
		{api.Letter{Text: "\xff"}, true},
	} {
		for place := range 3 {
			b := boxOf(4, 6, 9)
			c.l.UID = b.Letters[place].UID
			b.Letters[place] = c.l
			if got := Right(b); got != c.want {
				t.Errorf("Right with %.99q at %d: %v", fmt.Sprint(c.l), place, got)
			}
		}
	}
}

// TestRightDayBeyond: one day more than there are, where a number may be so great.
func TestRightDayBeyond(t *testing.T) {
	beyond := int64(api.MaxNumber) + 1
	if int64(int(beyond)) != beyond {
		t.Skip("no number is so great here")
	}
	b := boxOf(1)
	b.Letters[0].Day = int(beyond)
	if Right(b) {
		t.Error("a day beyond is Right")
	}
	if n, err := b.Append(nil, int(beyond), ""); n != 0 || !isPlain(err, api.ErrRange) {
		t.Error("Append of a day beyond:", n, err)
	}
}

// TestAppend: letters stand behind the others, numbers go on (8.1).
func TestAppend(t *testing.T) {
	b := Box{Valid: 7, Next: 5}
	for _, c := range []struct {
		l    []string
		day  int
		text string
		want api.Letter
	}{
		{nil, 0, "", api.Letter{UID: 5}},
		{[]string{"work", `\draft`, `\SEEN`, "work", `\seen`}, 3, "a", api.Letter{UID: 6, Flags: []string{`\Seen`, `\Draft`, "work"}, Day: 3, Text: "a"}},
		{keywords(api.MaxFlags), api.MaxNumber, strings.Repeat("x", api.MaxMessage), api.Letter{UID: 7, Flags: keywords(api.MaxFlags), Day: api.MaxNumber, Text: strings.Repeat("x", api.MaxMessage)}},
		// The bound is of flags that differ.
		{slices.Concat(keywords(api.MaxFlags), keywords(api.MaxFlags)), 1, "\x00\xff", api.Letter{UID: 8, Flags: keywords(api.MaxFlags), Day: 1, Text: "\x00\xff"}},
	} {
		n, err := b.Append(c.l, c.day, c.text)
		if n != c.want.UID || err != nil {
			t.Errorf("Append = %d, %v, not %d", n, err, c.want.UID)
		}
		last := Box{Letters: b.Letters[len(b.Letters)-1:]}
		if shown(last) != shown(Box{Letters: []api.Letter{c.want}}) || b.Next != c.want.UID+1 || b.Valid != 7 || !Right(b) {
			t.Errorf("Append made %s, not %v", shown(b), c.want)
		}
	}
	if !slices.Equal(uidsOf(b), []int{5, 6, 7, 8}) {
		t.Error(uidsOf(b))
	}
}

// TestAppendErrors: all that may be wrong at once: the first one that the document tells is answered, and nothing is changed.
func TestAppendErrors(t *testing.T) {
	long := strings.Repeat("k", api.MaxKeyword+1)
	type trial struct {
		text string
		err  api.Errno
	}
	texts := []trial{{"", 0}, {strings.Repeat("x", api.MaxMessage), 0}, {strings.Repeat("x", api.MaxMessage+1), api.ErrLimit}, {strings.Repeat("x", 1<<20), api.ErrLimit}}
	lists := []struct {
		l   []string
		err api.Errno
	}{
		{nil, 0}, {[]string{`\seen`, "a"}, 0}, {keywords(api.MaxFlags), 0},
		{[]string{""}, api.ErrForm}, {[]string{`\None`}, api.ErrForm}, {[]string{"a", "a-b"}, api.ErrForm},
		{[]string{long}, api.ErrLimit}, {keywords(api.MaxFlags + 1), api.ErrLimit},
		{[]string{long, "a-b"}, api.ErrLimit}, {[]string{"a-b", long}, api.ErrForm},
		{append(keywords(api.MaxFlags+1), "a-b"), api.ErrForm},
	}
	days := []struct {
		day int
		err api.Errno
	}{{0, 0}, {api.MaxNumber, 0}, {-1, api.ErrRange}, {math.MinInt, api.ErrRange}}
	last := boxOf(3)
	last.Next = api.MaxNumber
	boxes := []struct {
		b   Box
		err api.Errno
	}{
		{boxOf(), 0}, {boxOf(upTo(api.MaxLetters - 1)...), 0}, {boxOf(api.MaxNumber - 2), 0},
		{boxOf(upTo(api.MaxLetters)...), api.ErrFull}, {last, api.ErrFull}, {Box{Valid: 1, Next: api.MaxNumber}, api.ErrFull},
	}
	for _, x := range texts {
		for _, l := range lists {
			for _, d := range days {
				for _, c := range boxes {
					want := api.OK
					for _, e := range []api.Errno{c.err, d.err, l.err, x.err} {
						if e != 0 {
							want = e
						}
					}
					b := c.b
					n, err := b.Append(l.l, d.day, x.text)
					if !isPlain(err, want) || (want != 0) != (n == 0) || (want != 0) != (shown(b) == shown(c.b)) || !Right(b) {
						t.Errorf("Append(%.99q, %d, %d bytes) to %d letters, Next %d = %d, %v, not %v", l.l, d.day, len(x.text), len(c.b.Letters), c.b.Next, n, err, want)
					}
				}
			}
		}
	}
}

// TestAppendEnds: as many as there may be, and one more; all numbers, and one more.
func TestAppendEnds(t *testing.T) {
	b := Box{Valid: 1, Next: 1}
	for i := range api.MaxLetters {
		if n, err := b.Append(nil, i, ""); n != i+1 || err != nil {
			t.Fatalf("the letter %d: %d, %v", i, n, err)
		}
	}
	before := shown(b)
	if n, err := b.Append(nil, 0, ""); n != 0 || !isPlain(err, api.ErrFull) || shown(b) != before {
		t.Error("one letter more:", n, err)
	}
	// Where one went there is room, but its number is for ever.
	if err := b.Flag(9, Put, []string{`\Deleted`}); err != nil || len(b.Expunge(func(int) bool { return true })) != 1 {
		t.Fatal("the letter 9 does not go")
	}
	if n, err := b.Append(nil, 0, ""); n != api.MaxLetters+1 || err != nil {
		t.Error("one letter in the room of another one:", n, err)
	}
	b = Box{Valid: 1, Next: api.MaxNumber - 1}
	if n, err := b.Append(nil, 0, ""); n != api.MaxNumber-1 || err != nil || b.Next != api.MaxNumber || !Right(b) {
		t.Error("the last number:", n, err, b.Next)
	}
	if n, err := b.Append(nil, 0, ""); n != 0 || !isPlain(err, api.ErrFull) || len(b.Letters) != 1 || b.Next != api.MaxNumber {
		t.Error("no number left:", n, err, b.Next)
	}
}

// TestFind: none, the first, the last, one between, beyond; how many are less, where there is none (8.1).
func TestFind(t *testing.T) {
	for _, uids := range [][]int{nil, {1}, {5}, {2, 4}, {1, 2, 3}, {3, 7, 8, 20}, upTo(api.MaxLetters), {1, api.MaxNumber - 1}} {
		b := boxOf(uids...)
		before := shown(b)
		for _, uid := range slices.Concat([]int{math.MinInt, -1, 0, api.MaxNumber - 1, api.MaxNumber, math.MaxInt}, upTo(api.MaxLetters+2)) {
			less := 0
			for _, u := range uids {
				if u < uid {
					less++
				}
			}
			if n, there := b.Find(uid); n != less || there != slices.Contains(uids, uid) {
				t.Errorf("Find(%d) of %v = %d, %v", uid, uids, n, there)
			}
		}
		if shown(b) != before {
			t.Errorf("Find changed %s", before)
		}
	}
}

func TestFlag(t *testing.T) {
	twelve := keywords(api.MaxFlags)
	for _, c := range []struct {
		had  []string
		what int
		l    []string
		want []string
	}{
		{nil, Put, nil, nil},
		{nil, Put, []string{"b", `\SEEN`, "a", "b"}, []string{`\Seen`, "a", "b"}},
		{[]string{`\Seen`, "a"}, Put, nil, nil},
		{[]string{`\Seen`, "a"}, Put, []string{`\draft`}, []string{`\Draft`}},
		{twelve, Put, twelve[:1], twelve[:1]},
		{nil, Put, twelve, twelve},
		{[]string{`\Seen`}, Put, append(slices.Clone(twelve), twelve...), twelve},
		{nil, More, nil, nil},
		{[]string{`\Seen`, "a"}, More, nil, []string{`\Seen`, "a"}},
		{[]string{`\Seen`, "b"}, More, []string{"a", `\answered`, `\sEEN`}, []string{`\Seen`, `\Answered`, "a", "b"}},
		{twelve, More, twelve, twelve},
		{twelve[:11], More, twelve[11:], twelve},
		{twelve[:6], More, twelve[3:], twelve},
		{twelve, More, twelve[4:5], twelve},
		{nil, Less, nil, nil},
		{nil, Less, []string{"a"}, nil},
		{[]string{`\Seen`, "a"}, Less, nil, []string{`\Seen`, "a"}},
		{[]string{`\Seen`, "a"}, Less, []string{"A", "seen", `\Draft`}, []string{`\Seen`, "a"}},
		{[]string{`\Seen`, `\Draft`, "a"}, Less, []string{`\DRAFT`}, []string{`\Seen`, "a"}},
		{[]string{`\Seen`, "a"}, Less, []string{"a", `\Seen`}, nil},
		{twelve, Less, twelve, nil},
		{twelve, Less, keywords(2), twelve[2:]},
	} {
		for place, uid := range []int{4, 6, 9} {
			was := with(boxOf(4, 6, 9), uid, c.had...)
			b := was
			err := b.Flag(uid, c.what, c.l)
			if want := with(was, uid, c.want...); err != nil || shown(b) != shown(want) || !Right(b) {
				t.Errorf("%q, Flag(%d, %q) at %d: %v, %q, not %q", c.had, c.what, c.l, place, err, b.Letters[place].Flags, c.want)
			}
		}
	}
}

// TestFlagErrors: all that may be wrong at once: the first one that the document tells is answered, and nothing is changed.
func TestFlagErrors(t *testing.T) {
	long := strings.Repeat("k", api.MaxKeyword+1)
	lists := []struct {
		l   []string
		err api.Errno
	}{
		{nil, 0}, {[]string{"a"}, 0}, {keywords(api.MaxFlags), 0},
		{[]string{""}, api.ErrForm}, {[]string{`\None`}, api.ErrForm}, {[]string{"a", "a-b"}, api.ErrForm},
		{[]string{long}, api.ErrLimit}, {keywords(api.MaxFlags + 1), api.ErrLimit}, {[]string{long, "-"}, api.ErrLimit}, {[]string{"-", long}, api.ErrForm},
	}
	was := with(boxOf(4, 6, 9), 6, keywords(api.MaxFlags)...)
	for _, uid := range []int{math.MinInt, -1, 0, 1, 5, 6, 7, 10, api.MaxNumber, math.MaxInt} {
		for _, what := range []int{math.MinInt, -1, Put, More, Less, Less + 1, 4, math.MaxInt} {
			for _, c := range lists {
				want := api.OK
				switch {
				case uid != 6:
					want = api.ErrMissing
				case c.err != 0:
					want = c.err
				case what < Put || what > Less:
					want = api.ErrArg
				case what == More && slices.Contains(c.l, "a"):
					want = api.ErrLimit
				}
				b := was
				err := b.Flag(uid, what, c.l)
				if !isPlain(err, want) || want != 0 && shown(b) != shown(was) || !Right(b) {
					t.Errorf("Flag(%d, %d, %.99q) = %v, not %v", uid, what, c.l, err, want)
				}
			}
		}
	}
	none := boxOf()
	if err := none.Flag(1, Put, nil); !isPlain(err, api.ErrMissing) {
		t.Error("Flag in an empty box:", err)
	}
}

func TestExpunge(t *testing.T) {
	all := func(int) bool { return true }
	none := func(int) bool { return false }
	even := func(uid int) bool { return uid%2 == 0 }
	for _, c := range []struct {
		uids, marked []int
		holds        func(int) bool
		gone         []int
	}{
		{nil, nil, all, nil},
		{[]int{1, 2, 3}, nil, all, nil},
		{[]int{1, 2, 3}, []int{1, 2, 3}, all, []int{1, 2, 3}},
		{[]int{1, 2, 3}, []int{1, 2, 3}, none, nil},
		{[]int{1, 2, 3}, []int{1, 2, 3}, even, []int{2}},
		{[]int{1, 2, 3}, []int{1, 3}, even, nil},
		{[]int{1, 2, 3}, []int{1}, all, []int{1}},
		{[]int{1, 2, 3}, []int{2}, all, []int{2}},
		{[]int{1, 2, 3}, []int{3}, all, []int{3}},
		{[]int{3, 4, 8, 9, 20}, []int{3, 8, 20}, even, []int{8, 20}},
		{upTo(api.MaxLetters), upTo(api.MaxLetters), all, upTo(api.MaxLetters)},
		// None says yes where there is no function, or one that panics.
		{[]int{1, 2, 3}, []int{1, 2, 3}, nil, nil},
		{[]int{1, 2, 3}, []int{1, 2, 3}, func(uid int) bool {
			if uid == 2 {
				panic("no")
			}
			return true
		}, []int{1, 3}},
	} {
		b := boxOf(c.uids...)
		for _, u := range c.uids {
			b = with(b, u, `\Seen`, "Deleted", "deleted")
		}
		for _, u := range c.marked {
			b = with(b, u, `\Seen`, `\Deleted`, "work")
		}
		want := b
		want.Letters = slices.DeleteFunc(slices.Clone(b.Letters), func(l api.Letter) bool { return slices.Contains(c.gone, l.UID) })
		if got := b.Expunge(c.holds); !slices.Equal(got, c.gone) || shown(b) != shown(want) || !Right(b) {
			t.Errorf("Expunge of %v, marked %v = %v, and %s", c.uids, c.marked, got, shown(b))
		}
		if got := b.Expunge(c.holds); len(got) != 0 || shown(b) != shown(want) {
			t.Errorf("Expunge of %v, marked %v, twice = %v", c.uids, c.marked, got)
		}
	}
}

// TestExpungeAsks: only those that are marked are asked for, each once, rising.
func TestExpungeAsks(t *testing.T) {
	b := with(with(with(boxOf(2, 3, 5, 8, 13), 3, `\Deleted`), 8, `\Deleted`), 13, `\Deleted`)
	var asked []int
	gone := b.Expunge(func(uid int) bool {
		asked = append(asked, uid)
		return uid == 8
	})
	if !slices.Equal(asked, []int{3, 8, 13}) || !slices.Equal(gone, []int{8}) || !slices.Equal(uidsOf(b), []int{2, 3, 5, 13}) {
		t.Error(asked, gone, uidsOf(b))
	}
}

// TestOpen: a View sees just what is there, and news are none then (8.2).
func TestOpen(t *testing.T) {
	for _, uids := range [][]int{nil, {1}, {3, 7, 8}, upTo(api.MaxLetters), {api.MaxNumber - 1}} {
		b := boxOf(uids...)
		if len(uids) > 0 {
			b = with(b, uids[0], `\Seen`, "a")
		}
		v := Open(b)
		if got := v.Uids(); !slices.Equal(got, uids) {
			t.Errorf("Uids = %v, not %v", got, uids)
		}
		for range 2 {
			checkLook(t, v, b, false, "", uids...)
			checkLook(t, v, b, true, "", uids...)
		}
	}
}

func TestLookGone(t *testing.T) {
	for _, c := range []struct {
		saw, has []int
		want     string
	}{
		{[]int{1}, nil, "gone 1"},
		{[]int{2, 4, 6}, []int{4, 6}, "gone 1"},
		{[]int{2, 4, 6}, []int{2, 6}, "gone 2"},
		{[]int{2, 4, 6}, []int{2, 4}, "gone 3"},
		{[]int{2, 4, 6}, []int{4}, "gone 3, gone 1"},
		{[]int{2, 4, 6}, []int{2}, "gone 3, gone 2"},
		{[]int{2, 4, 6}, []int{6}, "gone 2, gone 1"},
		{[]int{2, 4, 6}, nil, "gone 3, gone 2, gone 1"},
		{[]int{2, 4, 6}, []int{2, 4, 6}, ""},
	} {
		b := boxOf(c.has...)
		v := Open(boxOf(c.saw...))
		checkLook(t, v, b, false, "", c.saw...)
		checkLook(t, v, b, true, c.want, c.has...)
		checkLook(t, v, b, true, "", c.has...)
	}
}

func TestLookMany(t *testing.T) {
	for _, c := range []struct {
		saw, has []int
		want     string
	}{
		{nil, []int{1}, "many 1"},
		{nil, []int{4, 9}, "many 2"},
		{[]int{2, 4}, []int{2, 4, 5}, "many 3"},
		{[]int{2, 4}, []int{2, 4, 5, 6, 9}, "many 5"},
		// Those below the last one that is seen are never seen.
		{[]int{2, 4}, []int{1, 2, 3, 4}, ""},
		{[]int{2, 4}, []int{1, 2, 3, 4, 5}, "many 3"},
	} {
		for _, gone := range []bool{false, true} {
			v := Open(boxOf(c.saw...))
			b := boxOf(c.has...)
			sees := slices.Clone(c.saw)
			for _, u := range c.has {
				if len(c.saw) == 0 || u > c.saw[len(c.saw)-1] {
					sees = append(sees, u)
				}
			}
			checkLook(t, v, b, gone, c.want, sees...)
			checkLook(t, v, b, gone, "", sees...)
		}
	}
}

// TestLookGoneAndNew: gone and new at once, with and without being told of those that are gone.
func TestLookGoneAndNew(t *testing.T) {
	v := Open(boxOf(2, 4, 6))
	b := boxOf(2, 6, 7, 9)
	checkLook(t, v, b, false, "many 5", 2, 4, 6, 7, 9)
	checkLook(t, v, b, false, "", 2, 4, 6, 7, 9)
	checkLook(t, v, b, true, "gone 2", 2, 6, 7, 9)
	v = Open(boxOf(2, 4, 6))
	checkLook(t, v, b, true, "gone 2, many 4", 2, 6, 7, 9)
	v = Open(boxOf(2, 4, 6))
	checkLook(t, v, boxOf(7), true, "gone 3, gone 2, gone 1, many 1", 7)
	v = Open(boxOf(2, 4, 6))
	checkLook(t, v, boxOf(2, 4, 9), true, "gone 3, many 3", 2, 4, 9)
	// One that came and went between two looks is not told of.
	v = Open(boxOf(2))
	checkLook(t, v, boxOf(2, 4), true, "many 2", 2, 4)
	// What is seen last is asked for behind those that are gone.
	v = Open(boxOf(2, 6))
	checkLook(t, v, boxOf(2, 4), false, "", 2, 6)
	checkLook(t, v, boxOf(2, 4), true, "gone 2, many 2", 2, 4)
}

// TestLookFilledAgain: a box that was emptied and filled again, by other numbers, or by those that there were.
func TestLookFilledAgain(t *testing.T) {
	v := Open(boxOf(5, 6))
	b := boxOf(1, 2, 3)
	checkLook(t, v, b, false, "", 5, 6)
	checkLook(t, v, b, true, "gone 2, gone 1, many 3", 1, 2, 3)
	v = Open(boxOf(5, 6))
	checkLook(t, v, boxOf(), false, "", 5, 6)
	checkLook(t, v, boxOf(), true, "gone 2, gone 1")
	checkLook(t, v, boxOf(), true, "")
	checkLook(t, v, boxOf(5, 6), true, "many 2", 5, 6)
	v = Open(boxOf(5, 6))
	checkLook(t, v, boxOf(1, 7), false, "many 3", 5, 6, 7)
	checkLook(t, v, boxOf(1, 7), true, "gone 2, gone 1", 7)
	// By calls: numbers go on.
	own := Box{Valid: 1, Next: 1}
	for range 3 {
		_, _ = own.Append([]string{`\Deleted`}, 0, "")
	}
	v = Open(own)
	own.Expunge(func(int) bool { return true })
	for range 2 {
		_, _ = own.Append(nil, 0, "")
	}
	checkLook(t, v, own, false, "many 5", 1, 2, 3, 4, 5)
	checkLook(t, v, own, true, "gone 3, gone 2, gone 1", 4, 5)
}

func TestLookFlags(t *testing.T) {
	was := with(with(boxOf(2, 4, 6), 4, `\Seen`), 6, "a")
	v := Open(was)
	b := with(was, 4, `\Seen`, `\Draft`)
	checkLook(t, v, b, false, `flags 2 (\Seen \Draft)`, 2, 4, 6)
	checkLook(t, v, b, false, "", 2, 4, 6)
	// All at once, in order; one that has none any more.
	b = with(with(with(b, 2, "x"), 4), 6, "A")
	checkLook(t, v, b, true, "flags 1 (x), flags 2 (), flags 3 (A)", 2, 4, 6)
	checkLook(t, v, b, true, "", 2, 4, 6)
	checkLook(t, v, was, true, `flags 1 (), flags 2 (\Seen), flags 3 (a)`, 2, 4, 6)
	// What comes back to what it was between two looks is not told of.
	for _, what := range []int{More, Less} {
		if err := was.Flag(4, what, []string{"z"}); err != nil {
			t.Fatal(err)
		}
	}
	checkLook(t, v, was, true, "", 2, 4, 6)
}

// TestLookFlagsOfNew: flags of one that is new are not told of, until they are others.
func TestLookFlagsOfNew(t *testing.T) {
	v := Open(boxOf(2))
	b := with(with(boxOf(2, 4), 4, `\Seen`), 2, "a")
	checkLook(t, v, b, true, "many 2, flags 1 (a)", 2, 4)
	checkLook(t, v, b, true, "", 2, 4)
	checkLook(t, v, with(b, 4), true, "flags 2 ()", 2, 4)
	v = Open(boxOf())
	checkLook(t, v, b, false, "many 2", 2, 4)
	checkLook(t, v, b, false, "", 2, 4)
}

// TestLookFlagsOfGone: one that is gone has no flags; places are those behind the gone.
func TestLookFlagsOfGone(t *testing.T) {
	was := with(boxOf(2, 4, 6, 8), 4, `\Deleted`)
	b := with(with(boxOf(2, 6, 8, 9), 6, "x"), 8, "y")
	v := Open(was)
	checkLook(t, v, b, false, "many 5, flags 3 (x), flags 4 (y)", 2, 4, 6, 8, 9)
	checkLook(t, v, with(b, 8, "z"), true, "gone 2, flags 3 (z)", 2, 6, 8, 9)
	v = Open(was)
	checkLook(t, v, b, true, "gone 2, many 4, flags 2 (x), flags 3 (y)", 2, 6, 8, 9)
}

func TestKnow(t *testing.T) {
	was := boxOf(2, 4, 6)
	b := with(with(was, 4, `\Seen`), 6, "a")
	v := Open(was)
	v.Know(4, []string{`\Seen`})
	checkLook(t, v, b, true, "flags 3 (a)", 2, 4, 6)
	// What is known otherwise than it is, is told.
	v.Know(2, []string{"x"})
	v.Know(4, nil)
	v.Know(6, []string{"a"})
	checkLook(t, v, b, true, `flags 1 (), flags 2 (\Seen)`, 2, 4, 6)
	checkLook(t, v, b, true, "", 2, 4, 6)
	// Of those that are not seen nothing is known.
	for _, uid := range []int{math.MinInt, -1, 0, 1, 3, 5, 7, api.MaxNumber, math.MaxInt} {
		v.Know(uid, []string{"x"})
	}
	checkLook(t, v, b, true, "", 2, 4, 6)
	more := with(boxOf(2, 4, 6, 7), 4, `\Seen`)
	checkLook(t, v, with(more, 6, "a"), true, "many 4", 2, 4, 6, 7)
	// Of one that is gone, but still seen.
	v.Know(7, []string{"x"})
	checkLook(t, v, b, false, "", 2, 4, 6, 7)
	checkLook(t, v, with(more, 6, "a"), false, "flags 4 ()", 2, 4, 6, 7)
	none := Open(boxOf())
	none.Know(1, []string{"x"})
	checkLook(t, none, boxOf(1), true, "many 1", 1)
	checkLook(t, none, boxOf(1), true, "", 1)
}

// flagged is a list with room behind it, and words in that room that nobody may write into.
func flagged(l ...string) []string {
	return append(slices.Clone(l), "room", "room", "room")[:len(l)]
}

// roomKept says whether nothing was written behind a list's length.
func roomKept(l []string) bool {
	behind := l[:len(l)+3][len(l):]
	return slices.Equal(behind, []string{"room", "room", "room"})
}

// TestListsKept: no list that is handed in is written into, nor kept, nor what stands behind its length (P4).
func TestListsKept(t *testing.T) {
	b := Box{Valid: 1, Next: 1}
	l := flagged("b", `\seen`, "a", "a")
	if _, err := b.Append(l, 0, ""); err != nil || !slices.Equal(l, []string{"b", `\seen`, "a", "a"}) || !roomKept(l) {
		t.Error("Append wrote into its list:", l, err)
	}
	clear(l)
	if got := b.Letters[0].Flags; !slices.Equal(got, []string{`\Seen`, "a", "b"}) {
		t.Error("Append kept its list:", got)
	}
	for _, what := range []int{Put, More, Less} {
		l = flagged(`\Draft`, "c", `\SEEN`)
		if err := b.Flag(1, what, l); err != nil || !slices.Equal(l, []string{`\Draft`, "c", `\SEEN`}) || !roomKept(l) {
			t.Error("Flag wrote into its list:", l, err)
		}
		before := shown(b)
		clear(l)
		if shown(b) != before {
			t.Error("Flag kept its list:", shown(b))
		}
	}
	v := Open(boxOf(1))
	l = flagged("x", "y")
	v.Know(1, l)
	l[0] = "z"
	if !roomKept(l) {
		t.Error("Know wrote behind its list")
	}
	checkLook(t, v, with(boxOf(1), 1, "x", "y"), true, "", 1)
	if l[0] != "z" || !roomKept(l) {
		t.Error("Look wrote into a list that was known")
	}
}

// TestCopiesStay: what is done to a box is not done to a copy of it, nor to what stands behind the list that both share.
func TestCopiesStay(t *testing.T) {
	room := make([]api.Letter, 3, 8)
	for i := range room[:8] {
		room[:8][i] = api.Letter{UID: i + 1, Flags: flagged(`\Deleted`, "a"), Text: strconv.Itoa(i)}
	}
	first := Box{Valid: 1, Next: 4, Letters: room}
	whole := Box{Letters: room[:8]}
	was, wasWhole := shown(first), shown(whole)
	check := func(what string) {
		t.Helper()
		if shown(first) != was || shown(whole) != wasWhole {
			t.Errorf("%s: the first box is %s, not %s", what, shown(first), was)
		}
		for _, l := range room[:8] {
			if !roomKept(l.Flags) {
				t.Errorf("%s wrote behind the flags of %d", what, l.UID)
			}
		}
	}
	b, c := first, first
	if _, err := b.Append([]string{"b"}, 1, "b"); err != nil {
		t.Fatal(err)
	}
	check("Append")
	if _, err := c.Append([]string{"c"}, 2, "c"); err != nil {
		t.Fatal(err)
	}
	check("Append")
	d := b
	wasB := shown(b)
	if _, err := d.Append(nil, 3, "d"); err != nil || shown(b) != wasB {
		t.Fatal(err)
	}
	if e := b; true {
		if _, err := e.Append(nil, 4, "e"); err != nil || d.Letters[4].Text != "d" || b.Letters[3].Text != "b" || c.Letters[3].Text != "c" {
			t.Error("two copies share what stands behind their list")
		}
	}
	for _, what := range []int{Put, More, Less} {
		b = first
		if err := b.Flag(2, what, []string{`\Seen`, "a"}); err != nil || shown(b) == was {
			t.Error("Flag:", err)
		}
		check("Flag")
	}
	b = first
	if got := b.Expunge(func(uid int) bool { return uid < 3 }); !slices.Equal(got, []int{1, 2}) {
		t.Error(got)
	}
	check("Expunge")
	v := Open(first)
	v.Know(2, nil)
	check("Know")
	v.Look(first, true)
	v.Look(b, true)
	v.Look(first, true)
	check("Look")
	if !Right(first) {
		t.Error("not Right")
	}
	check("Right")
}

// TestAnswersFresh: what comes out is the caller's.
func TestAnswersFresh(t *testing.T) {
	b := with(boxOf(1, 2, 3), 2, `\Deleted`)
	v := Open(b)
	got := v.Uids()
	clear(got)
	_ = append(got[:1], 9)
	if !slices.Equal(v.Uids(), []int{1, 2, 3}) {
		t.Error("Uids are shared:", v.Uids())
	}
	b = with(b, 2, "x", "y")
	was := shown(b)
	news := v.Look(b, true)
	if newsShown(news) != "flags 2 (x y)" {
		t.Fatal(newsShown(news))
	}
	clear(news[0].Flags)
	_ = append(news[0].Flags[:1], "z")
	clear(news)
	if shown(b) != was {
		t.Error("news share the box's flags:", shown(b))
	}
	checkLook(t, v, b, true, "", 1, 2, 3)
	c := with(boxOf(1, 2), 1, `\Deleted`)
	gone := c.Expunge(func(int) bool { return true })
	clear(gone)
	if !slices.Equal(uidsOf(c), []int{2}) {
		t.Error("what Expunge tells is shared:", uidsOf(c))
	}
}

// TestViewOwn: a View keeps no list of a box: what is done to the box is not seen until it is looked at.
func TestViewOwn(t *testing.T) {
	b := with(boxOf(1, 2), 1, "x")
	v := Open(b)
	b.Letters[0].Flags[0] = "y"
	b.Letters[1].UID = 7
	if !slices.Equal(v.Uids(), []int{1, 2}) {
		t.Error(v.Uids())
	}
	checkLook(t, v, with(boxOf(1, 2), 1, "x"), true, "", 1, 2)
	c := with(boxOf(1, 2, 3), 3, "x")
	checkLook(t, v, with(c, 1, "x"), true, "many 3", 1, 2, 3)
	c.Letters[2].Flags[0] = "y"
	checkLook(t, v, with(with(boxOf(1, 2, 3), 3, "x"), 1, "x"), true, "", 1, 2, 3)
}

// second is a second reading of a box: letters by their numbers, flags as what is so.
type second struct {
	next    int
	letters map[int]secondLetter
}

type secondLetter struct {
	flags map[string]bool
	day   int
	text  string
}

// numbers are the letters' numbers, rising.
func (s *second) numbers() []int {
	var out []int
	for u := range s.letters {
		out = append(out, u)
	}
	sort.Ints(out)
	return out
}

// five are the document's flags of the system, in its order.
var five = []string{`\Seen`, `\Answered`, `\Flagged`, `\Deleted`, `\Draft`}

// listed are flags in the document's order.
func listed(set map[string]bool) []string {
	var out, others []string
	for _, f := range five {
		if set[f] {
			out = append(out, f)
		}
	}
	for f := range set {
		if f[0] != '\\' {
			others = append(others, f)
		}
	}
	sort.Strings(others)
	return append(out, others...)
}

// secondSet reads flags of the words that are drawn.
func secondSet(l []string) (map[string]bool, api.Errno) {
	out := map[string]bool{}
	for _, f := range l {
		switch {
		case f == "" || strings.ContainsAny(f, "- ") || f == `\None`:
			return nil, api.ErrForm
		case len(f) > 20 && f[0] != '\\':
			return nil, api.ErrLimit
		}
		for _, name := range five {
			if strings.EqualFold(name, f) {
				f = name
			}
		}
		out[f] = true
	}
	if len(out) > 12 {
		return nil, api.ErrLimit
	}
	return out, 0
}

func (s *second) append(l []string, day int, text string) (int, api.Errno) {
	set, e := secondSet(l)
	switch {
	case len(text) > 2000:
		return 0, api.ErrLimit
	case e != 0:
		return 0, e
	case day < 0:
		return 0, api.ErrRange
	case len(s.letters) == 60 || s.next == 1<<31-1:
		return 0, api.ErrFull
	}
	s.letters[s.next] = secondLetter{set, day, text}
	s.next++
	return s.next - 1, 0
}

func (s *second) flag(uid, what int, l []string) api.Errno {
	had, there := s.letters[uid]
	set, e := secondSet(l)
	switch {
	case !there:
		return api.ErrMissing
	case e != 0:
		return e
	case what < 0 || what > 2:
		return api.ErrArg
	}
	now := map[string]bool{}
	for f := range had.flags {
		if what == 1 || what == 2 && !set[f] {
			now[f] = true
		}
	}
	for f := range set {
		if what != 2 {
			now[f] = true
		}
	}
	if len(now) > 12 {
		return api.ErrLimit
	}
	had.flags = now
	s.letters[uid] = had
	return 0
}

func (s *second) expunge(holds func(int) bool) []int {
	var out []int
	for _, u := range s.numbers() {
		if s.letters[u].flags[`\Deleted`] && holds(u) {
			out = append(out, u)
			delete(s.letters, u)
		}
	}
	return out
}

// box is the box that a second reading is.
func (s *second) box(valid int) Box {
	b := Box{Valid: valid, Next: s.next}
	for _, u := range s.numbers() {
		l := s.letters[u]
		b.Letters = append(b.Letters, api.Letter{UID: u, Flags: listed(l.flags), Day: l.day, Text: l.text})
	}
	return b
}

// seen is a second reading of a View: numbers, and flags by them.
type seen struct {
	uids  []int
	flags map[int]string
}

// look is the document's 8.2, sentence by sentence.
func (s *seen) look(b Box, gone bool) string {
	has := map[int]string{}
	for _, l := range b.Letters {
		has[l.UID] = written(l.Flags)
	}
	var out []string
	for again := gone; again; {
		again = false
		for i := len(s.uids) - 1; i >= 0 && !again; i-- {
			if _, there := has[s.uids[i]]; !there {
				out = append(out, fmt.Sprint("gone ", i+1))
				s.uids = append(append([]int{}, s.uids[:i]...), s.uids[i+1:]...)
				again = true
			}
		}
	}
	saw, last := append([]int{}, s.uids...), -1
	for _, u := range saw {
		last = u
	}
	for _, l := range b.Letters {
		if l.UID > last {
			s.uids = append(s.uids, l.UID)
			s.flags[l.UID] = has[l.UID]
		}
	}
	if len(s.uids) > len(saw) {
		out = append(out, fmt.Sprint("many ", len(s.uids)))
	}
	for i, u := range saw {
		if now, there := has[u]; there && now != s.flags[u] {
			out = append(out, fmt.Sprintf("flags %d %s", i+1, now))
			s.flags[u] = now
		}
	}
	return strings.Join(out, ", ")
}

// openSecond is a second reading of Open.
func openSecond(b Box) *seen {
	s := &seen{flags: map[int]string{}}
	s.look(b, false)
	return s
}

// client sees a box by news alone.
type client struct{ flags []string }

// hear takes news; new messages' flags are asked for, as of b.
func (c *client) hear(l []News, b Box) {
	for _, n := range l {
		switch n.Kind {
		case Gone:
			c.flags = slices.Delete(slices.Clone(c.flags), n.N-1, n.N)
		case Many:
			for len(c.flags) < n.N {
				at := len(b.Letters) - n.N + len(c.flags)
				c.flags = append(c.flags, strings.Join(b.Letters[at].Flags, " "))
			}
		case Flags:
			c.flags[n.N-1] = strings.Join(n.Flags, " ")
		}
	}
}

// drawnFlags are some words, right and wrong ones.
func drawnFlags(r *rand.Rand) []string {
	words := []string{`\Seen`, `\seen`, `\Deleted`, `\dELETED`, `\FLAGGED`, `\Draft`, `\answered`, "work", "Home", "$Junk", "a_b", "Deleted"}
	wrong := []string{`\None`, "a-b", "", strings.Repeat("x", 21), strings.Repeat("y", 20)}
	var out []string
	for range r.Intn(5) {
		out = append(out, words[r.Intn(len(words))])
	}
	switch r.Intn(20) {
	case 0:
		out = append(out, wrong[r.Intn(len(wrong))])
	case 1:
		out = append(out, keywords(r.Intn(15))...)
	}
	return out
}

// trial is a box and how it is seen, each beside a second reading.
type trial struct {
	b     Box
	s     *second
	views []*View
	seens []*seen
	// all is told all, and each View is looked through by whoever may be told of those that are gone.
	all *View
	who *client
}

func newTrial(next int) *trial {
	c := &trial{b: Box{Valid: 3, Next: next}, s: &second{next, map[int]secondLetter{}}, who: &client{}}
	c.all = Open(c.b)
	for range 3 {
		c.views = append(c.views, Open(c.b))
		c.seens = append(c.seens, openSecond(c.b))
	}
	return c
}

// step does one thing to both, and tells what differs ("": nothing).
func (c *trial) step(r *rand.Rand) string {
	uid, i := c.b.Next-r.Intn(14), r.Intn(len(c.views))
	l := drawnFlags(r)
	did, got, want := "", "", ""
	switch r.Intn(10) {
	case 0, 1, 2:
		day, text := r.Intn(9)-1, strings.Repeat("t", r.Intn(3))
		if r.Intn(30) == 0 {
			text = strings.Repeat("t", api.MaxMessage-1+r.Intn(3))
		}
		n, err := c.b.Append(l, day, text)
		m, e := c.s.append(l, day, text)
		did, got, want = "Append", fmt.Sprint(n, int(api.Tell(err))), fmt.Sprint(m, int(e))
	case 3, 4:
		what := r.Intn(5) - 1
		did, got, want = "Flag", fmt.Sprint(int(api.Tell(c.b.Flag(uid, what, l)))), fmt.Sprint(int(c.s.flag(uid, what, l)))
	case 5:
		more := []string{`\Deleted`}
		did, got, want = "Flag", fmt.Sprint(int(api.Tell(c.b.Flag(uid, More, more)))), fmt.Sprint(int(c.s.flag(uid, 1, more)))
	case 6:
		of := r.Intn(3) + 1
		holds := func(uid int) bool { return uid%of == 0 }
		did, got, want = "Expunge", fmt.Sprint(c.b.Expunge(holds)), fmt.Sprint(c.s.expunge(holds))
	case 7:
		c.views[i].Know(uid, l)
		if _, sees := c.seens[i].flags[uid]; sees {
			c.seens[i].flags[uid] = written(l)
		}
	case 8:
		c.views[i], c.seens[i] = Open(c.b), openSecond(c.b)
	default:
		gone := r.Intn(2) == 0
		did, got, want = "Look", newsShown(c.views[i].Look(c.b, gone)), c.seens[i].look(c.b, gone)
	}
	if got != want {
		return did + ": " + got + ", not " + want
	}
	return c.differs(i)
}

// differs tells what is not as the second reading has it, behind a step.
func (c *trial) differs(i int) string {
	if got, want := shown(c.b), shown(c.s.box(3)); got != want {
		return "the box is " + got + ", not " + want
	}
	if !Right(c.b) {
		return "not Right: " + shown(c.b)
	}
	if got, want := fmt.Sprint(c.views[i].Uids()), fmt.Sprint(c.seens[i].uids); got != want {
		return "it sees " + got + ", not " + want
	}
	c.who.hear(c.all.Look(c.b, true), c.b)
	var want []string
	for _, l := range c.b.Letters {
		want = append(want, strings.Join(l.Flags, " "))
	}
	if !slices.Equal(c.who.flags, want) || !slices.Equal(c.all.Uids(), uidsOf(c.b)) {
		return fmt.Sprintf("who is told all sees %q, not %q", c.who.flags, want)
	}
	return ""
}

// TestDrawn: drawn calls, one behind the other, beside the second reading.
func TestDrawn(t *testing.T) {
	for seed := range int64(150) {
		r := rand.New(rand.NewSource(seed))
		next := 1 + r.Intn(5)
		if seed%10 == 0 {
			next = api.MaxNumber - 40
		}
		c := newTrial(next)
		for i := range 250 {
			if wrong := c.step(r); wrong != "" {
				t.Fatalf("seed %d, step %d: %s", seed, i, wrong)
			}
		}
	}
}

// TestLookAll: each way to have seen some of six, and to have some of seven, with flags of two kinds, told and not told of those that are gone, twice.
func TestLookAll(t *testing.T) {
	made := func(set, flagged int) Box {
		b := Box{Valid: 1, Next: 9}
		for i := range 7 {
			if set>>i&1 == 0 {
				continue
			}
			l := api.Letter{UID: i + 1}
			if flagged>>i&1 == 1 {
				l.Flags = []string{"x"}
			}
			b.Letters = append(b.Letters, l)
		}
		return b
	}
	for saw := range 1 << 6 {
		for has := range 1 << 7 {
			for _, flagged := range []int{0, 0x55, 0x2a, 0x7f, 0x1c} {
				for _, gone := range []bool{false, true} {
					was, b := made(saw, 0x33), made(has, flagged)
					v, s := Open(was), openSecond(was)
					for range 2 {
						if got, want := newsShown(v.Look(b, gone)), s.look(b, gone); got != want || !slices.Equal(v.Uids(), s.uids) {
							t.Fatalf("saw %v, has %v: Look(%v) = %q, not %q; sees %v, not %v", uidsOf(was), uidsOf(b), gone, got, want, v.Uids(), s.uids)
						}
					}
				}
			}
		}
	}
}

// TestWrongBoxes: of a box that is not Right nothing is told, but every call ends.
func TestWrongBoxes(t *testing.T) {
	r := rand.New(rand.NewSource(9))
	ends := []int{math.MinInt, -1, 0, 1, 2, 3, 5, 8, api.MaxNumber - 1, api.MaxNumber, math.MaxInt}
	drawn := func() Box {
		b := Box{Valid: ends[r.Intn(len(ends))], Next: ends[r.Intn(len(ends))]}
		for range r.Intn(80) {
			b.Letters = append(b.Letters, api.Letter{UID: ends[r.Intn(len(ends))], Flags: drawnFlags(r), Day: ends[r.Intn(len(ends))]})
		}
		return b
	}
	for range 2000 {
		b := drawn()
		v := Open(b)
		for range 9 {
			uid := ends[r.Intn(len(ends))]
			b.Find(uid)
			_ = b.Flag(uid, r.Intn(5)-1, drawnFlags(r))
			_, _ = b.Append(drawnFlags(r), ends[r.Intn(len(ends))], "")
			b.Expunge(func(uid int) bool { return uid%2 == 0 })
			v.Know(uid, drawnFlags(r))
			v.Look(b, r.Intn(2) == 0)
			v.Look(drawn(), r.Intn(2) == 0)
			v.Uids()
			Right(b)
		}
	}
}

// TestGreatBoxes: a box of very many, and of very many flags, is looked at in time.
func TestGreatBoxes(t *testing.T) {
	begin := time.Now()
	great := boxOf(upTo(200_000)...)
	v := Open(great)
	if got := v.Look(boxOf(), true); len(got) != 200_000 || got[0].N != 200_000 {
		t.Error(len(got))
	}
	if got := v.Look(great, true); len(got) != 1 {
		t.Error(len(got))
	}
	if Right(great) {
		t.Error("a great box is Right")
	}
	for i := range great.Letters {
		great.Letters[i].Flags = []string{`\Deleted`}
	}
	if got := v.Look(great, true); len(got) != 200_000 {
		t.Error(len(got))
	}
	if got := great.Expunge(func(uid int) bool { return uid%2 == 0 }); len(got) != 100_000 {
		t.Error(len(got))
	}
	many := with(boxOf(1), 1, keywords(200_000)...)
	if Right(many) || many.Flag(1, Put, keywords(200_000)) != api.ErrLimit {
		t.Error("many flags")
	}
	if took := time.Since(begin); took > 20*time.Second {
		t.Error("it took", took)
	}
}

// FuzzBox: calls that bytes choose, beside the second reading.
func FuzzBox(f *testing.F) {
	f.Add(int64(1), uint8(20), uint8(0))
	f.Add(int64(2), uint8(250), uint8(3))
	f.Fuzz(func(t *testing.T, seed int64, many, left uint8) {
		next := 1 + int(left)
		if left > 200 {
			next = api.MaxNumber - int(left-200)
		}
		r, c := rand.New(rand.NewSource(seed)), newTrial(next)
		for i := range int(many) {
			if wrong := c.step(r); wrong != "" {
				t.Fatalf("step %d: %s", i, wrong)
			}
		}
	})
}
