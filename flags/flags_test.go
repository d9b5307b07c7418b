package flags

import (
	"errors"
	"math/rand"
	"slices"
	"strconv"
	"strings"
	"testing"

	"letterbox/api"
)

// five are the document's flags of the system, in its order.
var five = []string{"\\Seen", "\\Answered", "\\Flagged", "\\Deleted", "\\Draft"}

// signs are the bytes of all others, byte by byte.
const signs = "$0123456789ABCDEFGHIJKLMNOPQRSTUVWXYZ_abcdefghijklmnopqrstuvwxyz"

// isPlain says whether an error is just that Errno, with no place.
func isPlain(err error, want api.Errno) bool {
	var at *api.At
	return api.Tell(err) == want && !errors.As(err, &at)
}

// checkName holds what Name tells against what is wanted (with an error: nothing).
func checkName(t *testing.T, s, want string, e api.Errno) {
	t.Helper()
	if got, err := Name(s); got != want || !isPlain(err, e) {
		t.Errorf("Name(%q) = %q, %v, not %q, %v", s, got, err, want, e)
	}
}

// checkSet holds what Set tells against what is wanted.
func checkSet(t *testing.T, l, want []string, e api.Errno) {
	t.Helper()
	if got, err := Set(l); !slices.Equal(got, want) || !isPlain(err, e) {
		t.Errorf("Set(%q) = %q, %v, not %q, %v", l, got, err, want, e)
	}
}

// spellings are all ways to write a text's letters great and small.
func spellings(s string) []string {
	out := []string{""}
	for i := range len(s) {
		var next []string
		for _, ahead := range out {
			great, small := strings.ToUpper(s[i:i+1]), strings.ToLower(s[i:i+1])
			next = append(next, ahead+great)
			if small != great {
				next = append(next, ahead+small)
			}
		}
		out = next
	}
	return out
}

// spelt has of each spelling of the five the one that it is.
var spelt = func() map[string]string {
	out := map[string]string{}
	for _, name := range five {
		for _, s := range spellings(name) {
			out[s] = name
		}
	}
	return out
}()

// keywords are so many others that differ, in order.
func keywords(many int) []string {
	var out []string
	for i := range many {
		out = append(out, "k"+strconv.Itoa(100+i))
	}
	return out
}

// reversed is a list from its end on.
func reversed(l []string) []string {
	out := slices.Clone(l)
	slices.Reverse(out)
	return out
}

// TestNameSystem: each of the five, in all its spellings (3.1).
func TestNameSystem(t *testing.T) {
	if len(spelt) != 1<<4+1<<8+1<<7+1<<7+1<<5 {
		t.Fatalf("there are %d spellings", len(spelt))
	}
	for s, name := range spelt {
		checkName(t, s, name, api.OK)
	}
}

// TestNameSystemChanged: the five with one byte changed, left out or put in.
func TestNameSystemChanged(t *testing.T) {
	for _, name := range five {
		for i := 1; i <= len(name); i++ {
			for c := range 256 {
				with := name[:i] + string([]byte{byte(c)}) + name[i:]
				checkName(t, with, spelt[with], formUnless(spelt[with] != ""))
				if i < len(name) {
					for _, changed := range []string{name[:i] + string([]byte{byte(c)}) + name[i+1:], name[:i] + name[i+1:]} {
						checkName(t, changed, spelt[changed], formUnless(spelt[changed] != ""))
					}
				}
			}
		}
	}
}

// formUnless is ErrForm, unless all is well.
func formUnless(well bool) api.Errno {
	if well {
		return api.OK
	}
	return api.ErrForm
}

func TestNameWrong(t *testing.T) {
	for _, s := range []string{
		// nothing, and blanks
		"", " ", "\t", "a b", " a", "a ", "a\n", "\r\n",
		// a \ alone, with others, at the wrong place
		"\\", "\\\\", "\\S", "\\See", "\\Seenn", "\\Recent", "\\work", "\\a", "\\*", "\\_", "\\$", "\\1", "\\None",
		"\\\\Seen", " \\Seen", "\\Seen ", "\\ Seen", "\\Seen\\", "\\Seen\\Seen", "\\Seen,\\Draft", "/Seen", "a\\", "a\\Seen", "Seen\\", "|seen",
		// letters above 127 that some take for an s, or for a k
		"\\\u017feen", "\\An\u017fwered", "\u017f", "wor\u212a",
		// other signs
		"a-b", "a.b", "a+b", "a*", "(a)", "{1}", "\"a\"", "a%", "a#", "a&b", "a=b", "a@b", "\x00", "a\x00", "\x7f", "\x80", "\xff", "a\xff", "\u00e9", "\uff21", "\u0661",
	} {
		checkName(t, s, "", api.ErrForm)
	}
}

func TestNameKeyword(t *testing.T) {
	for _, s := range []string{
		"work", "Home", "$Junk", "$Forwarded", "NonJunk", "a", "Z", "z", "A", "0", "9", "007", "_", "$", "$$", "__", "_a", "a_", "1a", "a1",
		// others are as they are written, also those that are called like one of the five
		"Seen", "seen", "SEEN", "Deleted", "Draft", "WORK", "wOrK",
	} {
		checkName(t, s, s, api.OK)
	}
}

// TestNameBytes: every byte, alone and beside others, at each place.
func TestNameBytes(t *testing.T) {
	for c := range 256 {
		b := string([]byte{byte(c)})
		for _, s := range []string{b, b + "k", "k" + b, "k" + b + "k", b + b, strings.Repeat("k", api.MaxKeyword-1) + b} {
			if strings.Contains(signs, b) {
				checkName(t, s, s, api.OK)
			} else {
				checkName(t, s, "", api.ErrForm)
			}
		}
	}
}

// TestNameLong: the bound, and that a wrong form is told ahead of it.
func TestNameLong(t *testing.T) {
	for i := range len(signs) {
		one := signs[i : i+1]
		for _, many := range []int{1, 2, api.MaxKeyword - 1, api.MaxKeyword} {
			s := strings.Repeat(one, many)
			checkName(t, s, s, api.OK)
		}
		for _, many := range []int{api.MaxKeyword + 1, api.MaxKeyword + 2, 10 * api.MaxKeyword, 100_000} {
			checkName(t, strings.Repeat(one, many), "", api.ErrLimit)
		}
	}
	// just one more, and that one is wrong; wrong at each place of more
	checkName(t, strings.Repeat("k", api.MaxKeyword)+"-", "", api.ErrForm)
	long := strings.Repeat("k", 2*api.MaxKeyword)
	for i := range len(long) {
		for _, c := range []string{" ", "-", "\\", "\x80", "\u00e9"} {
			checkName(t, long[:i]+c+long[i+1:], "", api.ErrForm)
		}
	}
	checkName(t, long+" ", "", api.ErrForm)
	checkName(t, "\\"+long, "", api.ErrForm)
	checkName(t, "\\Seen"+long, "", api.ErrForm)
}

func TestSet(t *testing.T) {
	for _, c := range []struct{ l, want []string }{
		{nil, nil},
		{[]string{}, nil},
		{[]string{"work"}, []string{"work"}},
		{[]string{"\\seen"}, []string{"\\Seen"}},
		{[]string{"work", "\\Seen"}, []string{"\\Seen", "work"}},
		// the five among themselves: as the document tells them, and not byte by byte
		{reversed(five), five},
		{[]string{"\\Answered", "\\Deleted", "\\Draft", "\\Flagged", "\\Seen"}, five},
		{[]string{"\\DRAFT", "\\deleted", "\\fLAGGED", "\\aNsWeReD", "\\SEEN"}, five},
		// others among themselves: byte by byte
		{[]string{"b", "a", "ab", "aa", "B", "_", "$", "1", "10", "2", "Z"}, []string{"$", "1", "10", "2", "B", "Z", "_", "a", "aa", "ab", "b"}},
		// the five stand ahead of others, also of those whose bytes are below a \
		{[]string{"$a", "0", "A", "\\Draft", "a", "\\Seen", "_"}, []string{"\\Seen", "\\Draft", "$a", "0", "A", "_", "a"}},
		// said more than once: of the five in any letters, of others in the same ones
		{[]string{"\\Seen", "\\SEEN", "\\seen", "\\Seen"}, []string{"\\Seen"}},
		{[]string{"a", "b", "a", "b", "a"}, []string{"a", "b"}},
		{[]string{"work", "Work", "WORK", "work", "Work"}, []string{"WORK", "Work", "work"}},
		{[]string{"Seen", "\\Seen", "seen", "\\seen"}, []string{"\\Seen", "Seen", "seen"}},
	} {
		checkSet(t, c.l, c.want, api.OK)
		checkSet(t, reversed(c.l), c.want, api.OK)
	}
}

// TestSetFive: every choice out of the five, said in any order.
func TestSetFive(t *testing.T) {
	d := rand.New(rand.NewSource(1))
	for choice := range 1 << len(five) {
		var want []string
		for i, name := range five {
			if choice>>i&1 == 1 {
				want = append(want, name)
			}
		}
		for range 20 {
			l := slices.Concat(want, want)
			d.Shuffle(len(l), func(i, j int) { l[i], l[j] = l[j], l[i] })
			checkSet(t, l, want, api.OK)
		}
	}
}

// TestSetMany: the bound is of flags that differ.
func TestSetMany(t *testing.T) {
	full := keywords(api.MaxFlags)
	mixed := slices.Concat(five, keywords(api.MaxFlags-len(five)))
	for _, c := range []struct {
		l, want []string
		e       api.Errno
	}{
		{full[1:], full[1:], api.OK},
		{full, full, api.OK},
		{reversed(full), full, api.OK},
		{mixed, mixed, api.OK},
		{reversed(mixed), mixed, api.OK},
		// more that are the same ones
		{append(slices.Clone(full), full[0]), full, api.OK},
		{append(slices.Clone(mixed), "\\SEEN", "\\draft"), mixed, api.OK},
		{slices.Repeat(reversed(mixed), 50), mixed, api.OK},
		{slices.Repeat([]string{"\\seen", "k"}, 10_000), []string{"\\Seen", "k"}, api.OK},
		// one more
		{keywords(api.MaxFlags + 1), nil, api.ErrLimit},
		{append(slices.Clone(full), "K100"), nil, api.ErrLimit},
		{append(slices.Clone(full), "\\Seen"), nil, api.ErrLimit},
		{append(slices.Clone(mixed), "Seen"), nil, api.ErrLimit},
		{slices.Repeat(keywords(api.MaxFlags+1), 3), nil, api.ErrLimit},
		{keywords(10_000), nil, api.ErrLimit},
	} {
		checkSet(t, c.l, c.want, c.e)
	}
}

// TestSetWrong: Name's errors one by one, each ahead of the bound.
func TestSetWrong(t *testing.T) {
	long := strings.Repeat("k", api.MaxKeyword+1)
	tooMany := keywords(api.MaxFlags + 1)
	for _, c := range []struct {
		l []string
		e api.Errno
	}{
		{[]string{""}, api.ErrForm},
		{[]string{" "}, api.ErrForm},
		{[]string{"\\"}, api.ErrForm},
		{[]string{"\\None"}, api.ErrForm},
		{[]string{"a\xff"}, api.ErrForm},
		{[]string{"a b"}, api.ErrForm},
		{[]string{long}, api.ErrLimit},
		{[]string{long + "-"}, api.ErrForm},
		// at the beginning, between, at the end
		{[]string{"a-b", "\\Seen", "work"}, api.ErrForm},
		{[]string{"\\Seen", "a-b", "work"}, api.ErrForm},
		{[]string{"\\Seen", "work", "a-b"}, api.ErrForm},
		{[]string{"\\Seen", "work", long}, api.ErrLimit},
		// the first one's
		{[]string{long, "a-b"}, api.ErrLimit},
		{[]string{"a-b", long}, api.ErrForm},
		{[]string{"a", long, "b", "\\None"}, api.ErrLimit},
		{[]string{"a", "\\None", "b", long}, api.ErrForm},
		// too many, and one of them, or one behind them, is wrong
		{append(slices.Clone(tooMany), "a-b"), api.ErrForm},
		{append(slices.Clone(tooMany), "a-b", long), api.ErrForm},
		{append(slices.Clone(tooMany), long, "a-b"), api.ErrLimit},
		{append([]string{"\\None"}, tooMany...), api.ErrForm},
		{append(keywords(1000), ""), api.ErrForm},
	} {
		checkSet(t, c.l, nil, c.e)
	}
}

// readSet is a second reading of Set: flags are asked for from the least on.
func readSet(l []string) ([]string, api.Errno) {
	names := map[string]bool{}
	for _, s := range l {
		switch {
		case spelt[s] != "":
			names[spelt[s]] = true
		case s == "" || strings.Trim(s, signs) != "":
			return nil, api.ErrForm
		case len(s) > api.MaxKeyword:
			return nil, api.ErrLimit
		default:
			names[s] = true
		}
	}
	var out, others []string
	for _, name := range five {
		if names[name] {
			out = append(out, name)
			delete(names, name)
		}
	}
	for name := range names {
		others = append(others, name)
	}
	slices.Sort(others)
	out = append(out, others...)
	if len(out) > api.MaxFlags {
		return nil, api.ErrLimit
	}
	return out, api.OK
}

// TestSetDrawn: drawn lists, against the second reading; and that a set is its own set.
func TestSetDrawn(t *testing.T) {
	d := rand.New(rand.NewSource(3))
	right := slices.Concat(five, keywords(8), []string{"\\SEEN", "\\draft", "\\aNSWERED", "Seen", "K100", "$", "_", "0", "Zz", "zZ", strings.Repeat("x", api.MaxKeyword)})
	wrong := []string{"", "\\", "a-b", "\\None", "\xff", strings.Repeat("x", api.MaxKeyword+1), strings.Repeat("-", api.MaxKeyword+1)}
	for range 3000 {
		var l []string
		for range d.Intn(2 * api.MaxFlags) {
			if d.Intn(40) == 0 {
				l = append(l, wrong[d.Intn(len(wrong))])
			} else {
				l = append(l, right[d.Intn(len(right))])
			}
		}
		want, e := readSet(l)
		checkSet(t, l, want, e)
		if e == api.OK {
			checkSet(t, want, want, api.OK)
		}
	}
}

func FuzzSet(f *testing.F) {
	f.Add("\\Seen work \\DRAFT")
	f.Add("a-b " + strings.Repeat("k", api.MaxKeyword+1))
	f.Add(strings.Join(keywords(api.MaxFlags+1), " "))
	f.Fuzz(func(t *testing.T, s string) {
		l := strings.Split(s, " ")
		want, e := readSet(l)
		checkSet(t, l, want, e)
	})
}

func TestOrNot(t *testing.T) {
	full := keywords(api.MaxFlags)
	more := []string{"a", "b", "c"}
	for _, c := range []struct{ a, b, or, not []string }{
		// empty lists
		{nil, nil, nil, nil},
		{[]string{}, nil, nil, nil},
		{nil, []string{"a"}, []string{"a"}, nil},
		{[]string{"a"}, nil, []string{"a"}, []string{"a"}},
		{[]string{"\\Seen", "a"}, []string{}, []string{"\\Seen", "a"}, []string{"\\Seen", "a"}},
		// equal ones
		{[]string{"a"}, []string{"a"}, []string{"a"}, nil},
		{five, five, five, nil},
		// nothing in common
		{[]string{"b"}, []string{"a"}, []string{"a", "b"}, []string{"b"}},
		{[]string{"A"}, []string{"\\Draft"}, []string{"\\Draft", "A"}, []string{"A"}},
		{[]string{"\\Answered"}, []string{"\\Seen"}, []string{"\\Seen", "\\Answered"}, []string{"\\Answered"}},
		{[]string{"\\Seen", "\\Flagged", "\\Draft"}, []string{"\\Answered", "\\Deleted"}, five, []string{"\\Seen", "\\Flagged", "\\Draft"}},
		// something in common
		{[]string{"\\Seen", "a", "b"}, []string{"\\Draft", "b", "c"}, []string{"\\Seen", "\\Draft", "a", "b", "c"}, []string{"\\Seen", "a"}},
		{[]string{"a", "b", "c"}, []string{"b"}, []string{"a", "b", "c"}, []string{"a", "c"}},
		{[]string{"b"}, []string{"a", "b", "c"}, []string{"a", "b", "c"}, nil},
		// others are the same in the same letters alone
		{[]string{"Work"}, []string{"work"}, []string{"Work", "work"}, []string{"Work"}},
		{[]string{"\\Seen"}, []string{"Seen"}, []string{"\\Seen", "Seen"}, []string{"\\Seen"}},
		// no bound is told here
		{full, more, slices.Concat(more, full), full},
	} {
		checkOrNot(t, c.a, c.b, c.or, c.not)
	}
}

// checkOrNot holds what Or and Not tell against what is wanted.
func checkOrNot(t *testing.T, a, b, or, not []string) {
	t.Helper()
	if got := Or(a, b); !slices.Equal(got, or) {
		t.Errorf("Or(%q, %q) = %q, not %q", a, b, got, or)
	}
	if got := Not(a, b); !slices.Equal(got, not) {
		t.Errorf("Not(%q, %q) = %q, not %q", a, b, got, not)
	}
}

// TestOrNotAll: every two choices out of some flags, by the bits of numbers.
func TestOrNotAll(t *testing.T) {
	some := []string{"\\Seen", "\\Answered", "\\Draft", "$", "A", "_", "a", "ab"}
	chosen := func(choice int) []string {
		var out []string
		for i, name := range some {
			if choice>>i&1 == 1 {
				out = append(out, name)
			}
		}
		return out
	}
	for a := range 1 << len(some) {
		for b := range 1 << len(some) {
			checkOrNot(t, chosen(a), chosen(b), chosen(a|b), chosen(a&^b))
		}
	}
}

// TestOrNotLoose: of lists that are no sets the answers are in order, each once, too; and they stay as they are.
func TestOrNotLoose(t *testing.T) {
	a := []string{"b", "\\Draft", "a", "b", "\\Seen", "c"}
	b := []string{"c", "d", "\\Draft", "c"}
	aBefore, bBefore := slices.Clone(a), slices.Clone(b)
	checkOrNot(t, a, b, []string{"\\Seen", "\\Draft", "a", "b", "c", "d"}, []string{"\\Seen", "a", "b"})
	if !slices.Equal(a, aBefore) || !slices.Equal(b, bBefore) {
		t.Errorf("the lists have become %q, %q", a, b)
	}
	checkOrNot(t, []string{"", "\\x", "\\seen"}, []string{"\xff", ""}, []string{"", "\\seen", "\\x", "\xff"}, []string{"\\seen", "\\x"})
}

// TestOrNotLong: long lists are answered, too.
func TestOrNotLong(t *testing.T) {
	var even, odd, all []string
	for i := range 200_000 {
		name := strconv.Itoa(1_000_000 + i)
		all = append(all, name)
		if i%2 == 0 {
			even = append(even, name)
		} else {
			odd = append(odd, name)
		}
	}
	if !slices.Equal(Or(odd, even), all) || !slices.Equal(Not(all, even), odd) {
		t.Error("of long lists something else is told")
	}
}

func TestHas(t *testing.T) {
	l := []string{"\\Seen", "\\Draft", "$Junk", "Work"}
	for _, c := range []struct {
		l    []string
		s    string
		want bool
	}{
		{l, "\\Seen", true},
		{l, "\\Draft", true},
		{l, "$Junk", true},
		{l, "Work", true},
		{l, "\\Deleted", false},
		{l, "home", false},
		// in other letters: of the five, and of others
		{l, "\\SEEN", true},
		{l, "\\seen", true},
		{l, "\\dRAFT", true},
		{l, "work", false},
		{l, "$junk", false},
		// of the same letters, without the \, or with one
		{l, "Seen", false},
		{l, "\\Work", false},
		{[]string{"Seen"}, "\\Seen", false},
		// in a part of one, or more than one
		{l, "Wor", false},
		{l, "Work1", false},
		// no flags, though they are said there
		{l, "", false},
		{l, "\\", false},
		{l, " ", false},
		{l, "\xff", false},
		{l, "\\\u017feen", false},
		{[]string{"", "\\", "a-b", "\xff", "\\None"}, "", false},
		{[]string{"", "\\", "a-b", "\xff", "\\None"}, "\\", false},
		{[]string{"", "\\", "a-b", "\xff", "\\None"}, "a-b", false},
		{[]string{"", "\\", "a-b", "\xff", "\\None"}, "\\None", false},
		{[]string{"", "\\", "a-b", "\xff", "\\None"}, "\xff", false},
		{[]string{strings.Repeat("k", api.MaxKeyword+1)}, strings.Repeat("k", api.MaxKeyword+1), false},
		{[]string{strings.Repeat("k", api.MaxKeyword)}, strings.Repeat("k", api.MaxKeyword), true},
		// it is the Name that is looked for
		{[]string{"\\seen"}, "\\seen", false},
		// in none
		{nil, "\\Seen", false},
		{nil, "work", false},
		{nil, "", false},
		{[]string{}, "work", false},
	} {
		if got := Has(c.l, c.s); got != c.want {
			t.Errorf("Has(%q, %q) = %v", c.l, c.s, got)
		}
	}
}

func TestPrint(t *testing.T) {
	for _, c := range []struct {
		l    []string
		want string
	}{
		{nil, "()"},
		{[]string{}, "()"},
		{[]string{"\\Seen"}, "(\\Seen)"},
		{[]string{"work"}, "(work)"},
		{[]string{"\\Seen", "work"}, "(\\Seen work)"},
		{five, "(\\Seen \\Answered \\Flagged \\Deleted \\Draft)"},
		{[]string{"\\Draft", "$Junk", "a", "b_1"}, "(\\Draft $Junk a b_1)"},
		// all, as they stand
		{[]string{"b", "a", "b", "\\seen"}, "(b a b \\seen)"},
	} {
		if got := Print(c.l); got != c.want {
			t.Errorf("Print(%q) = %q, not %q", c.l, got, c.want)
		}
	}
}

// TestNothingWritten: no list is written into, nor what stands behind it, and answers are fresh memory.
func TestNothingWritten(t *testing.T) {
	full := []string{"work", "\\SEEN", "a", "a", "behind", "\\Draft"}
	sets := []string{"\\Seen", "a", "b", "\\Draft", "behind", "c"}
	before, setsBefore := slices.Clone(full), slices.Clone(sets)
	first, _ := Set(full[:4])
	answers := [][]string{first, Or(sets[:2], sets[1:3]), Or(sets[:3], nil), Or(nil, sets[:3]), Not(sets[:3], sets[1:2]), Not(sets[:3], nil), Not(sets[:3], sets[5:])}
	Has(full[:4], "\\seen")
	Print(full[:4])
	check := func() {
		t.Helper()
		if !slices.Equal(full, before) || !slices.Equal(sets, setsBefore) {
			t.Fatalf("the lists have become %q, %q", full, sets)
		}
	}
	check()
	for i, l := range answers {
		kept := make([][]string, len(answers))
		for j, other := range answers {
			kept[j] = slices.Clone(other)
		}
		l = l[:cap(l)]
		for k := range l {
			l[k] = "x"
		}
		check()
		for j, other := range answers {
			if j != i && !slices.Equal(other, kept[j]) {
				t.Fatalf("answer %d has become %q", j, other)
			}
		}
	}
	again, _ := Set(five)
	again[0] = "x"
	checkSet(t, reversed(five), five, api.OK)
}
