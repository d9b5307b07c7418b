package search

import (
	"errors"
	"fmt"
	"math/rand"
	"reflect"
	"slices"
	"strconv"
	"strings"
	"testing"
	"time"

	"letterbox/api"
	"letterbox/flags"
	"letterbox/head"
	"letterbox/seq"
)

// args are the parts that a text tells: words with blanks between, Strings in quotes, Lists in ( and ).
func args(s string) []api.Arg {
	l, _ := argsOf(s)
	return l
}

// argsOf are parts up to a ), or to the end, and what stands behind.
func argsOf(s string) (l []api.Arg, rest string) {
	for {
		s = strings.TrimLeft(s, " ")
		if s == "" {
			return l, ""
		}
		switch s[0] {
		case ')':
			return l, s[1:]
		case '(':
			var in []api.Arg
			in, s = argsOf(s[1:])
			l = append(l, api.Arg{Kind: api.List, List: in})
		case '"':
			var in string
			in, s, _ = strings.Cut(s[1:], `"`)
			l = append(l, api.Arg{Kind: api.String, Text: in})
		default:
			end := strings.IndexAny(s+" ", " ()\"")
			l = append(l, api.Arg{Kind: api.Atom, Text: s[:end]})
			s = s[end:]
		}
	}
}

// atom is a word.
func atom(s string) api.Arg { return api.Arg{Kind: api.Atom, Text: s} }

// atoms are so many of a word.
func atoms(s string, many int) []api.Arg { return slices.Repeat([]api.Arg{atom(s)}, many) }

// list is a List.
func list(l ...api.Arg) api.Arg { return api.Arg{Kind: api.List, List: l} }

// all is the key of everything; those that follow are keys, too.
var all = api.Key{Code: api.All}

func flagged(name string) api.Key { return api.Key{Code: api.Flag, Name: name} }

func field(name, text string) api.Key { return api.Key{Code: api.Head, Name: name, Text: text} }

func sized(code, n int) api.Key { return api.Key{Code: code, N: n} }

func anti(k api.Key) api.Key { return api.Key{Code: api.Not, Keys: []api.Key{k}} }

func either(a, b api.Key) api.Key { return api.Key{Code: api.Or, Keys: []api.Key{a, b}} }

func both(l ...api.Key) api.Key { return api.Key{Code: api.And, Keys: l} }

func ranged(code int, numbers ...int) api.Key {
	k := api.Key{Code: code}
	for i := 0; i < len(numbers); i += 2 {
		k.Set = append(k.Set, api.Range{From: numbers[i], To: numbers[i+1]})
	}
	return k
}

// same holds two keys against each other, field by field (an empty list may be nil).
func same(a, b api.Key) bool {
	return a.Code == b.Code && a.Name == b.Name && a.Text == b.Text && a.N == b.N && slices.Equal(a.Set, b.Set) && slices.EqualFunc(a.Keys, b.Keys, same)
}

// brief is a list as a text, cut where it is long.
func brief(l []api.Arg) string {
	s := fmt.Sprint(l)
	return s[:min(len(s), 300)]
}

// parse is Parse; what is wrong must be told plainly, and beside nothing.
func parse(t *testing.T, l []api.Arg) (api.Key, api.Errno) {
	t.Helper()
	k, err := Parse(l)
	var a *api.At
	if errors.As(err, &a) {
		t.Errorf("Parse(%s) tells an At", brief(l))
	}
	if err != nil && !reflect.DeepEqual(k, api.Key{}) {
		t.Errorf("Parse(%s) = %v beside an error", brief(l), k)
	}
	return k, api.Tell(err)
}

// checkKey holds what Parse tells against a key.
func checkKey(t *testing.T, l []api.Arg, want api.Key) {
	t.Helper()
	if k, e := parse(t, l); e != api.OK || !same(k, want) {
		t.Errorf("Parse(%s) = %+v, %v, not %+v", brief(l), k, e, want)
	}
}

// checkWrong holds what Parse tells against an error (or none).
func checkWrong(t *testing.T, l []api.Arg, want api.Errno) {
	t.Helper()
	if k, e := parse(t, l); e != want {
		t.Errorf("Parse(%s) = %+v, %v, not %v", brief(l), k, e, want)
	}
}

// plainKeys are the words of which keys are, each with what it wants, and what it is (6.1).
var plainKeys = []struct {
	text string
	want api.Key
}{
	{`ALL`, all},
	{`SEEN`, flagged(`\Seen`)},
	{`ANSWERED`, flagged(`\Answered`)},
	{`FLAGGED`, flagged(`\Flagged`)},
	{`DELETED`, flagged(`\Deleted`)},
	{`DRAFT`, flagged(`\Draft`)},
	{`UNSEEN`, anti(flagged(`\Seen`))},
	{`UNANSWERED`, anti(flagged(`\Answered`))},
	{`UNFLAGGED`, anti(flagged(`\Flagged`))},
	{`UNDELETED`, anti(flagged(`\Deleted`))},
	{`UNDRAFT`, anti(flagged(`\Draft`))},
	{`KEYWORD Work`, flagged(`Work`)},
	{`UNKEYWORD Work`, anti(flagged(`Work`))},
	{`FROM Me`, field("from", "Me")},
	{`TO Me`, field("to", "Me")},
	{`SUBJECT Me`, field("subject", "Me")},
	{`CC Me`, field("cc", "Me")},
	{`HEADER X-Spam Yes`, field("x-spam", "Yes")},
	{`BODY Hello`, api.Key{Code: api.Body, Text: "Hello"}},
	{`TEXT Hello`, api.Key{Code: api.Text, Text: "Hello"}},
	{`LARGER 12`, sized(api.Larger, 12)},
	{`SMALLER 12`, sized(api.Smaller, 12)},
	{`BEFORE 12`, sized(api.Before, 12)},
	{`ON 12`, sized(api.On, 12)},
	{`SINCE 12`, sized(api.Since, 12)},
	{`UID 2:3,7:*`, ranged(api.Uids, 2, 3, 7, 0)},
	{`2:3,7:*`, ranged(api.Numbers, 2, 3, 7, 0)},
}

// TestWords: each word by itself, in great and small letters, as an Atom, in quotes, and of a Kind that is none (6.1).
func TestWords(t *testing.T) {
	for _, c := range plainKeys {
		l := args(c.text)
		checkKey(t, l, c.want)
		mixed := []byte(strings.ToLower(l[0].Text))
		for i := 0; i < len(mixed); i += 2 {
			mixed[i] = strings.ToUpper(l[0].Text)[i]
		}
		for _, first := range []string{strings.ToLower(l[0].Text), string(mixed)} {
			checkKey(t, append([]api.Arg{atom(first)}, l[1:]...), c.want)
		}
		for _, kind := range []int{api.String, 0, -1, 4, 1 << 40} {
			kinds := slices.Clone(l)
			for i := range kinds {
				kinds[i].Kind = kind
			}
			checkKey(t, kinds, c.want)
			// what stands in a word's List is nothing
			kinds[0].List = args(`LARGER x`)
			checkKey(t, kinds, c.want)
		}
	}
}

// TestWordsWant: each word without what it wants, with a List in its place, and with more behind it (6.1).
func TestWordsWant(t *testing.T) {
	for _, c := range plainKeys {
		l := args(c.text)
		for i := range len(l) {
			if i > 0 {
				checkWrong(t, l[:i], api.ErrForm)
				checkWrong(t, []api.Arg{list(l[:i]...)}, api.ErrForm)
				// what it wants is not taken from behind its List
				checkWrong(t, append([]api.Arg{list(l[:i]...)}, l[i:]...), api.ErrForm)
				for _, inner := range [][]api.Arg{nil, {l[i]}, args(`ALL`), args(`1`)} {
					wrong := slices.Clone(l)
					wrong[i] = list(inner...)
					wrong[i].Text = l[i].Text
					checkWrong(t, wrong, api.ErrForm)
				}
			}
		}
		checkKey(t, append(slices.Clone(l), atom("1")), both(c.want, ranged(api.Numbers, 1, 1)))
		checkKey(t, append(args(`UNSEEN`), l...), both(anti(flagged(`\Seen`)), c.want))
		checkKey(t, append(args(`NOT`), l...), anti(c.want))
		checkKey(t, []api.Arg{list(l...)}, c.want)
	}
	for _, s := range []string{`NOT`, `OR`, `OR ALL`, `(NOT)`, `(OR)`, `(OR ALL)`, `(NOT) ALL`, `(OR ALL) ALL`, `OR NOT ALL`, `OR OR ALL ALL`, `NOT OR ALL`, `NOT ()`, `OR () ALL`, `OR ALL ()`} {
		checkWrong(t, args(s), api.ErrForm)
	}
	// what a word wants is a word, whatever it is called
	checkKey(t, args(`FROM ALL`), field("from", "ALL"))
	checkKey(t, args(`HEADER NOT OR SEEN`), both(field("not", "OR"), flagged(`\Seen`)))
	checkKey(t, args(`KEYWORD SEEN`), flagged(`SEEN`))
	checkKey(t, args(`BODY "" TEXT ")"`), both(api.Key{Code: api.Body}, api.Key{Code: api.Text, Text: ")"}))
}

// TestOtherWords: what is none of the words, and no set (6.1).
func TestOtherWords(t *testing.T) {
	for _, s := range []string{
		"", " ", "x", "\x00", "\xff", "AL", "ALLL", " ALL", "ALL ", "ALL\r\n", "A LL",
		// flags as they are called, and others
		`\Seen`, `\SEEN`, `UN\Seen`, "RECENT", "NEW", "OLD", "UNRECENT", "UNALL", "UNNOT", "UNOR", "UNUNSEEN", "UN", "UN SEEN", "NOTSEEN", "UNFROM", "UNUID", "Work",
		// others that some know
		"BCC", "SENTON", "SENTBEFORE", "SENTSINCE", "UIDS", "AND", "OR ALL ALL", "NOT ALL", "(ALL)", "FROM me", "KEYWORDS", "HEADERS", "LARGE", "SMALL", "AFTER",
		// letters above 127 that some take for an s, or for a k
		"\u017fEEN", "UN\u017feen", "\u212aEYWORD", "\uff21LL",
		// no sets
		"0", "-1", "+1", "01", "1.", "1,", ",1", "1:", ":1", "1:2:3", "1;2", "1 2", "**", "*:*:*", "0:1", "2147483648", "1:2147483648", "99999999999999999999", "0x1", "1e3", "\u0661",
	} {
		checkWrong(t, []api.Arg{atom(s)}, api.ErrForm)
		checkWrong(t, []api.Arg{{Kind: api.String, Text: s}}, api.ErrForm)
		checkWrong(t, []api.Arg{{Text: s}}, api.ErrForm)
		checkWrong(t, []api.Arg{atom(s), atom("ALL")}, api.ErrForm)
		checkWrong(t, []api.Arg{atom("ALL"), atom(s)}, api.ErrForm)
	}
	// each byte, for each letter of a word
	for i := range len("SEEN") {
		for c := range 256 {
			s := "SEEN"[:i] + string([]byte{byte(c)}) + "SEEN"[i+1:]
			if strings.ToUpper(s) == "SEEN" {
				checkKey(t, []api.Arg{atom(s)}, flagged(`\Seen`))
			} else {
				checkWrong(t, []api.Arg{atom(s)}, api.ErrForm)
			}
		}
	}
}

// TestFlags: KEYWORD and UNKEYWORD, with flags and with what is none (6.1).
func TestFlags(t *testing.T) {
	full := strings.Repeat("k", api.MaxKeyword)
	for s, name := range map[string]string{
		"work": "work", "Work": "Work", "$Junk": "$Junk", "_": "_", "7": "7", "Seen": "Seen", "ALL": "ALL", full: full,
		`\Seen`: `\Seen`, `\SEEN`: `\Seen`, `\draft`: `\Draft`, `\aNSWERED`: `\Answered`,
	} {
		for _, kind := range []int{api.Atom, api.String, 0} {
			checkKey(t, []api.Arg{atom("keyword"), {Kind: kind, Text: s}}, flagged(name))
			checkKey(t, []api.Arg{atom("unkeyword"), {Kind: kind, Text: s}}, anti(flagged(name)))
		}
	}
	for s, e := range map[string]api.Errno{
		"": api.ErrForm, " ": api.ErrForm, "a-b": api.ErrForm, "a b": api.ErrForm, `\`: api.ErrForm, `\None`: api.ErrForm, `\work`: api.ErrForm, `a\`: api.ErrForm, "\xff": api.ErrForm, "\u00e9": api.ErrForm, "*": api.ErrForm,
		full + "k": api.ErrLimit, full + full: api.ErrLimit, full + "-": api.ErrForm, "-" + full: api.ErrForm, `\` + full: api.ErrForm, strings.Repeat("k", 100_000): api.ErrLimit,
	} {
		for _, word := range []string{"KEYWORD", "UNKEYWORD"} {
			checkWrong(t, []api.Arg{atom(word), atom(s)}, e)
			checkWrong(t, []api.Arg{atom("NOT"), list(atom(word), atom(s)), atom("ALL")}, e)
		}
	}
}

// TestFields: names go in small letters, and texts as they are (6.1).
func TestFields(t *testing.T) {
	for _, text := range []string{"", " ", "Hello", "HELLO World", "a\r\nb", "\x00\xff", "\u00c9", "ALL", "("} {
		for _, word := range []string{"FROM", "from", "To", "SUBJECT", "sUBJECT", "Cc"} {
			checkKey(t, []api.Arg{atom(word), atom(text)}, field(strings.ToLower(word), text))
		}
		for name, small := range map[string]string{"": "", "X-SPAM": "x-spam", "x": "x", "From": "from", "A B\xff": "a b\xff", "\u00c9E": "\u00c9e", "\u212a": "\u212a", "ALL": "all"} {
			checkKey(t, []api.Arg{atom("HEADER"), atom(name), {Kind: api.String, Text: text}}, field(small, text))
		}
		checkKey(t, []api.Arg{atom("body"), atom(text)}, api.Key{Code: api.Body, Text: text})
		checkKey(t, []api.Arg{atom("text"), atom(text)}, api.Key{Code: api.Text, Text: text})
	}
}

// TestNumbers: from 0 to MaxNumber, and how they are written (6.1).
func TestNumbers(t *testing.T) {
	for word, code := range map[string]int{"LARGER": api.Larger, "SMALLER": api.Smaller, "BEFORE": api.Before, "ON": api.On, "SINCE": api.Since} {
		for _, n := range []int{0, 1, 9, 10, 100, 12345, api.MaxNumber - 1, api.MaxNumber} {
			checkKey(t, []api.Arg{atom(word), atom(strconv.Itoa(n))}, sized(code, n))
			checkKey(t, []api.Arg{atom(strings.ToLower(word)), {Kind: api.String, Text: strconv.Itoa(n)}}, sized(code, n))
		}
		for _, s := range []string{
			"", " ", "x", "*", "1:2", "1,2", "-", "+", "-1", "+1", "-0", "+0", "00", "01", "007", " 1", "1 ", "1.", "1.0", "1e3", "0x1", "1_000", "\x001", "\u0661",
			"2147483648", "2147483650", "4294967296", "4294967297", "9223372036854775807", "9223372036854775808", "18446744073709551617", "-2147483648", "-9223372036854775808", strings.Repeat("9", 100_000), strings.Repeat("0", 1000) + "1",
		} {
			checkWrong(t, []api.Arg{atom(word), atom(s)}, api.ErrForm)
		}
	}
}

// ranges are so many, as a text.
func ranges(many int) string { return strings.Repeat(",1:2", many)[1:] }

// TestSets: UID and a set, and a set by itself (6.1).
func TestSets(t *testing.T) {
	full, _ := seq.Parse(ranges(api.MaxRanges))
	sets := []struct {
		text string
		set  []api.Range
	}{
		{"1", []api.Range{{From: 1, To: 1}}},
		{"*", []api.Range{{}}},
		{"2:*", []api.Range{{From: 2}}},
		{"*:2", []api.Range{{To: 2}}},
		{"*:*", []api.Range{{}}},
		{"5:3", []api.Range{{From: 5, To: 3}}},
		{"1,1,3:4", []api.Range{{From: 1, To: 1}, {From: 1, To: 1}, {From: 3, To: 4}}},
		{"2147483647", []api.Range{{From: api.MaxNumber, To: api.MaxNumber}}},
		{ranges(api.MaxRanges), full},
	}
	for _, c := range sets {
		checkKey(t, []api.Arg{atom(c.text)}, api.Key{Code: api.Numbers, Set: c.set})
		checkKey(t, []api.Arg{atom("UID"), atom(c.text)}, api.Key{Code: api.Uids, Set: c.set})
		checkKey(t, []api.Arg{{Kind: api.String, Text: "uid"}, {Kind: api.String, Text: c.text}}, api.Key{Code: api.Uids, Set: c.set})
	}
	for s, e := range map[string]api.Errno{
		"": api.ErrForm, "0": api.ErrForm, "x": api.ErrForm, "1,": api.ErrForm, "ALL": api.ErrForm, "2147483648": api.ErrForm, "01": api.ErrForm,
		ranges(api.MaxRanges + 1): api.ErrLimit, ranges(api.MaxRanges) + ",": api.ErrForm, ranges(api.MaxRanges) + ",0": api.ErrForm, ranges(api.MaxRanges) + ",1,x": api.ErrLimit, "x," + ranges(api.MaxRanges): api.ErrForm, ranges(10_000): api.ErrLimit,
	} {
		checkWrong(t, []api.Arg{atom("UID"), atom(s)}, e)
		checkWrong(t, []api.Arg{atom("OR"), atom("uid"), atom(s)}, e)
		if s != "ALL" {
			checkWrong(t, []api.Arg{atom(s)}, e)
			checkWrong(t, []api.Arg{atom("NOT"), list(atom(s))}, e)
		}
	}
}

// TestKeys: one, some, none; NOT, OR and Lists in one another (6.1).
func TestKeys(t *testing.T) {
	seen, draft, one := flagged(`\Seen`), flagged(`\Draft`), ranged(api.Numbers, 1, 1)
	for s, want := range map[string]api.Key{
		`ALL ALL`:                   both(all, all),
		`SEEN 1 DRAFT`:              both(seen, one, draft),
		`FROM a UID 1 LARGER 2 ALL`: both(field("from", "a"), ranged(api.Uids, 1, 1), sized(api.Larger, 2), all),
		// Lists
		`(SEEN)`:                 seen,
		`((SEEN))`:               seen,
		`(SEEN DRAFT)`:           both(seen, draft),
		`((SEEN DRAFT))`:         both(seen, draft),
		`(SEEN DRAFT) 1`:         both(both(seen, draft), one),
		`1 (SEEN DRAFT)`:         both(one, both(seen, draft)),
		`(SEEN) (DRAFT)`:         both(seen, draft),
		`(SEEN (DRAFT (1 ALL)))`: both(seen, both(draft, both(one, all))),
		`((SEEN DRAFT) (1 ALL))`: both(both(seen, draft), both(one, all)),
		// NOT
		`NOT SEEN`:             anti(seen),
		`not not SEEN`:         anti(anti(seen)),
		`NOT UNSEEN`:           anti(anti(seen)),
		`NOT SEEN DRAFT`:       both(anti(seen), draft),
		`NOT (SEEN DRAFT)`:     anti(both(seen, draft)),
		`NOT (SEEN)`:           anti(seen),
		`(NOT SEEN) DRAFT`:     both(anti(seen), draft),
		`"NOT" FROM a DRAFT`:   both(anti(field("from", "a")), draft),
		`NOT UID 1 1`:          both(anti(ranged(api.Uids, 1, 1)), one),
		`NOT NOT (NOT SEEN) 1`: both(anti(anti(anti(seen))), one),
		// OR
		`OR SEEN DRAFT`:                 either(seen, draft),
		`or SEEN DRAFT 1`:               both(either(seen, draft), one),
		`1 oR SEEN DRAFT`:               both(one, either(seen, draft)),
		`OR OR SEEN DRAFT 1`:            either(either(seen, draft), one),
		`OR SEEN OR DRAFT 1`:            either(seen, either(draft, one)),
		`OR OR SEEN DRAFT OR 1 ALL`:     either(either(seen, draft), either(one, all)),
		`OR (SEEN DRAFT) (1 ALL)`:       either(both(seen, draft), both(one, all)),
		`OR (SEEN) (DRAFT)`:             either(seen, draft),
		`OR NOT SEEN DRAFT`:             either(anti(seen), draft),
		`OR SEEN NOT DRAFT`:             either(seen, anti(draft)),
		`NOT OR SEEN DRAFT`:             anti(either(seen, draft)),
		`"OR" FROM a "SUBJECT" "b" 1`:   both(either(field("from", "a"), field("subject", "b")), one),
		`(OR SEEN DRAFT)`:               either(seen, draft),
		`(OR SEEN DRAFT 1) UNSEEN`:      both(both(either(seen, draft), one), anti(seen)),
		`OR ((SEEN (DRAFT))) NOT ((1))`: either(both(seen, draft), anti(one)),
	} {
		checkKey(t, args(s), want)
	}
	for _, l := range [][]api.Arg{nil, {}, args(`()`), args(`(())`), args(`ALL ()`), args(`() ALL`), args(`(ALL ())`), {{}}, {{Kind: api.Atom}}, {{Kind: api.String}}, {{Kind: api.List}}, {{Kind: api.List, Text: "ALL"}}, {{Kind: 7, List: args(`ALL`)}}} {
		checkWrong(t, l, api.ErrForm)
	}
}

// limitIf is ErrLimit, if that is too much, else another one.
func limitIf(beyond bool, other api.Errno) api.Errno {
	if beyond {
		return api.ErrLimit
	}
	return other
}

// first is the first one of two that is an error.
func first(a, b api.Errno) api.Errno {
	if a != api.OK {
		return a
	}
	return b
}

// TestDepth: a KEY in MaxDepth others, and in one more, whatever stands there, or nothing (6.1).
func TestDepth(t *testing.T) {
	inner := map[string]api.Errno{``: api.ErrForm, `ALL`: api.OK, `UNSEEN`: api.OK, `FROM x`: api.OK, `x`: api.ErrForm, `FROM`: api.ErrForm, `KEYWORD ` + strings.Repeat("k", 99): api.ErrLimit, `NOT`: api.ErrForm, `()`: api.ErrForm}
	for many := range 3 * api.MaxDepth {
		for s, e := range inner {
			want := limitIf(many > api.MaxDepth, e)
			if s == `NOT` || s == `()` {
				want = limitIf(many+1 > api.MaxDepth, e)
			}
			nots := append(atoms("NOT", many), args(s)...)
			ors := append(atoms("OR", many), args(s)...)
			seconds := append(args(strings.Repeat("OR ALL ", many)), args(s)...)
			lists, mixed := args(s), args(s)
			for i := range many {
				lists = []api.Arg{list(lists...)}
				switch i % 3 {
				case 0:
					mixed = []api.Arg{list(mixed...)}
				case 1:
					mixed = append(args(`NOT`), mixed...)
				case 2:
					mixed = append(args(`OR ALL`), mixed...)
				}
			}
			for _, l := range [][]api.Arg{nots, seconds, lists, mixed} {
				checkWrong(t, l, want)
				if many > 0 {
					checkWrong(t, append(args(`ALL`), l...), want)
				}
			}
			if many > 0 && want == api.OK {
				checkWrong(t, ors, api.ErrForm)
				checkWrong(t, append(ors, atoms("ALL", many)...), api.OK)
			} else {
				checkWrong(t, ors, want)
			}
			if many > 0 {
				checkWrong(t, append(lists, atom("x")), first(want, api.ErrForm))
			}
		}
	}
	// the depth is of those in which a KEY lies, not of those beside it
	deep := `((((((ALL)))))) `
	checkWrong(t, args(deep+deep+`NOT NOT NOT NOT NOT NOT ALL `+deep+`OR OR OR OR OR OR ALL ALL ALL ALL ALL ALL ALL`), api.OK)
	checkWrong(t, args(`OR NOT NOT NOT NOT NOT ALL NOT NOT NOT NOT NOT ALL`), api.OK)
	checkWrong(t, args(`OR NOT NOT NOT NOT NOT ALL NOT NOT NOT NOT NOT NOT ALL`), api.ErrLimit)
	// the And of several is none of them, nor is the Not of a word
	checkWrong(t, args(`(1 (1 (1 (1 (1 (1 UNSEEN))))))`), api.OK)
	checkWrong(t, args(`(1 (1 (1 (1 (1 (1 (1)))))))`), api.ErrLimit)
}

// TestMany: MaxArgs KEYS, and one more, whatever stands there, or nothing (6.1).
func TestMany(t *testing.T) {
	for ahead := api.MaxArgs - 12; ahead < api.MaxArgs+3; ahead++ {
		for s, c := range map[string]struct {
			keys int // how many KEYS are begun, up to the error
			e    api.Errno
		}{
			`ALL`: {1, api.OK}, `UNSEEN`: {1, api.OK}, `FROM x`: {1, api.OK}, `HEADER x y`: {1, api.OK}, `KEYWORD x`: {1, api.OK}, `UNKEYWORD x`: {1, api.OK}, `UID 1,2,3`: {1, api.OK}, `1,2,3`: {1, api.OK},
			`(ALL)`: {2, api.OK}, `((ALL))`: {3, api.OK}, `(ALL ALL)`: {3, api.OK}, `(ALL (ALL ALL) ALL)`: {6, api.OK}, `(ALL) (ALL)`: {4, api.OK},
			`NOT ALL`: {2, api.OK}, `NOT NOT ALL`: {3, api.OK}, `NOT UNSEEN`: {2, api.OK}, `NOT (ALL ALL)`: {4, api.OK},
			`OR ALL ALL`: {3, api.OK}, `OR NOT ALL (ALL)`: {5, api.OK}, `OR OR ALL ALL OR ALL ALL`: {7, api.OK},
			// nothing, where a KEY would begin
			`()`: {2, api.ErrForm}, `(())`: {3, api.ErrForm}, `NOT`: {2, api.ErrForm}, `OR`: {2, api.ErrForm}, `OR ALL`: {3, api.ErrForm}, `OR (ALL)`: {4, api.ErrForm}, `(NOT)`: {3, api.ErrForm}, `(ALL ())`: {4, api.ErrForm},
			// something that is none
			`x`: {1, api.ErrForm}, `ALL x`: {2, api.ErrForm}, `NOT x`: {2, api.ErrForm}, `(ALL x)`: {3, api.ErrForm}, `OR ALL x`: {3, api.ErrForm},
			// what is wanted is no KEY
			`FROM`: {1, api.ErrForm}, `HEADER x`: {1, api.ErrForm}, `UID`: {1, api.ErrForm}, `LARGER`: {1, api.ErrForm}, `KEYWORD`: {1, api.ErrForm}, `FROM (ALL)`: {1, api.ErrForm},
			// the first one is told
			`x ALL ALL ALL ALL ALL ALL ALL ALL ALL ALL ALL ALL ALL ALL ALL`: {1, api.ErrForm}, `ALL LARGER y ALL ALL ALL ALL ALL ALL ALL ALL ALL ALL ALL ALL ALL`: {2, api.ErrForm},
		} {
			l := append(atoms("ALL", ahead), args(s)...)
			checkWrong(t, l, limitIf(ahead+c.keys > api.MaxArgs, c.e))
			checkWrong(t, []api.Arg{list(l...)}, limitIf(1+ahead+c.keys > api.MaxArgs, c.e))
			checkWrong(t, append(args(`OR SEEN`), list(l...)), limitIf(3+ahead+c.keys > api.MaxArgs, c.e))
			if c.e == api.OK {
				checkWrong(t, append(args(s), atoms("ALL", ahead)...), limitIf(ahead+c.keys > api.MaxArgs, api.OK))
			}
		}
	}
}

// TestManyAll: MaxArgs KEYS are all told (6.1).
func TestManyAll(t *testing.T) {
	var l []api.Arg
	var want []api.Key
	for i := range api.MaxArgs {
		l = append(l, atom(strconv.Itoa(i+1)))
		want = append(want, ranged(api.Numbers, i+1, i+1))
	}
	checkKey(t, l, both(want...))
	checkKey(t, []api.Arg{list(l[1:]...)}, both(want[1:]...))
	checkWrong(t, []api.Arg{list(l...)}, api.ErrLimit)
	checkWrong(t, append(l, atom("ALL")), api.ErrLimit)
	checkWrong(t, append(l, api.Arg{}), api.ErrLimit)
	checkWrong(t, append(l, list()), api.ErrLimit)
	checkWrong(t, atoms("ALL", 100_000), api.ErrLimit)
	checkWrong(t, slices.Repeat([]api.Arg{list()}, 100_000), api.ErrForm)
}

// TestFirst: where two are wrong, the first one from the left is told (6.1).
func TestFirst(t *testing.T) {
	// either of them alone, with an error that is known
	wrong := []struct {
		text string
		e    api.Errno
	}{
		{`x`, api.ErrForm}, {`0`, api.ErrForm}, {`""`, api.ErrForm}, {`()`, api.ErrForm}, {`(x)`, api.ErrForm}, {`LARGER -1`, api.ErrForm}, {`FROM ()`, api.ErrForm}, {`UID x`, api.ErrForm}, {`KEYWORD a-b`, api.ErrForm}, {`HEADER a ()`, api.ErrForm},
		{`KEYWORD ` + strings.Repeat("k", api.MaxKeyword+1), api.ErrLimit}, {`NOT UNKEYWORD ` + strings.Repeat("k", api.MaxKeyword+1), api.ErrLimit}, {`UID ` + ranges(api.MaxRanges+1), api.ErrLimit}, {ranges(api.MaxRanges + 1), api.ErrLimit}, {`(((((((ALL)))))))`, api.ErrLimit}, {`NOT NOT NOT NOT NOT NOT NOT ALL`, api.ErrLimit}, {strings.Repeat("ALL ", api.MaxArgs+1), api.ErrLimit},
	}
	for _, a := range wrong {
		checkWrong(t, args(a.text), a.e)
		for _, b := range wrong {
			for _, s := range []string{a.text + " " + b.text, "(" + a.text + ") " + b.text, a.text + " (" + b.text + ")", "OR " + a.text + " " + b.text, "ALL " + a.text + " ALL " + b.text, "OR ALL " + a.text + " NOT " + b.text, "NOT (" + a.text + " " + b.text + ")"} {
				checkWrong(t, args(s), a.e)
			}
		}
		// one that lacks what it wants stands at the end
		for _, b := range []string{`NOT`, `OR`, `OR ALL`, `FROM`, `UID`} {
			checkWrong(t, args(a.text+" "+b), a.e)
		}
	}
	// of one KEY: what stands ahead
	long := strings.Repeat("k", api.MaxKeyword+1)
	checkWrong(t, args(`OR KEYWORD `+long), api.ErrLimit)
	checkWrong(t, args(`OR x KEYWORD `+long), api.ErrForm)
	checkWrong(t, args(`KEYWORD `+long+` FROM`), api.ErrLimit)
	checkWrong(t, args(`FROM (KEYWORD `+long+`)`), api.ErrForm)
}

// A frame is what a KEY lies in, for the second reading: a list (with what is left of it), or what wants some keys.
type frame struct {
	code int
	want int // 0: all that are in the list
	rest []api.Arg
	keys []api.Key
}

// second reads keys without going into itself, as the chapter's words go.
func second(l []api.Arg) (api.Key, api.Errno) {
	stack := []frame{{code: api.And, rest: l}}
	lists := []int{0}
	count := 0
	for {
		top := &stack[len(stack)-1]
		from := &stack[lists[len(lists)-1]]
		if top.want > 0 && len(top.keys) == top.want || top.want == 0 && len(top.keys) > 0 && len(top.rest) == 0 {
			k := api.Key{Code: top.code, Keys: top.keys}
			if top.want == 0 && len(top.keys) == 1 {
				k = top.keys[0]
			}
			if top.want == 0 {
				lists = lists[:len(lists)-1]
			}
			stack = stack[:len(stack)-1]
			if len(stack) == 0 {
				return k, api.OK
			}
			below := &stack[len(stack)-1]
			below.keys = append(below.keys, k)
			continue
		}
		if len(stack)-1 > 6 || count >= 60 {
			return api.Key{}, api.ErrLimit
		}
		count++
		if len(from.rest) == 0 {
			return api.Key{}, api.ErrForm
		}
		part := from.rest[0]
		from.rest = from.rest[1:]
		word := head.Great(part.Text)
		switch {
		case part.Kind == api.List:
			lists = append(lists, len(stack))
			stack = append(stack, frame{code: api.And, rest: part.List})
		case word == "NOT":
			stack = append(stack, frame{code: api.Not, want: 1})
		case word == "OR":
			stack = append(stack, frame{code: api.Or, want: 2})
		default:
			k, taken, e := secondLeaf(word, part.Text, from.rest)
			if e != api.OK {
				return api.Key{}, e
			}
			from.rest = from.rest[taken:]
			top.keys = append(top.keys, k)
		}
	}
}

// secondLeaf reads a key that has no others, and says how many parts it takes behind its word.
func secondLeaf(word, text string, rest []api.Arg) (k api.Key, taken int, e api.Errno) {
	wants := map[string]string{"KEYWORD": "flag", "UNKEYWORD": "flag", "FROM": "text", "TO": "text", "SUBJECT": "text", "CC": "text", "HEADER": "two", "BODY": "text", "TEXT": "text", "LARGER": "number", "SMALLER": "number", "BEFORE": "number", "ON": "number", "SINCE": "number", "UID": "set"}[word]
	if wants == "" {
		bare := strings.TrimPrefix(word, "UN")
		if i := slices.Index([]string{"SEEN", "ANSWERED", "FLAGGED", "DELETED", "DRAFT"}, bare); i >= 0 {
			k = flagged([]string{`\Seen`, `\Answered`, `\Flagged`, `\Deleted`, `\Draft`}[i])
			if bare != word {
				k = anti(k)
			}
			return k, 0, api.OK
		}
		if word == "ALL" {
			return all, 0, api.OK
		}
		set, err := seq.Parse(text)
		return api.Key{Code: api.Numbers, Set: set}, 0, api.Tell(err)
	}
	taken = 1
	if wants == "two" {
		taken = 2
	}
	if len(rest) < taken || rest[0].Kind == api.List || rest[taken-1].Kind == api.List {
		return api.Key{}, 0, api.ErrForm
	}
	said := rest[taken-1].Text
	codes := map[string]int{"LARGER": api.Larger, "SMALLER": api.Smaller, "BEFORE": api.Before, "ON": api.On, "SINCE": api.Since, "BODY": api.Body, "TEXT": api.Text}
	switch wants {
	case "flag":
		name, err := flags.Name(said)
		k, e = flagged(name), api.Tell(err)
		if word == "UNKEYWORD" {
			k = anti(k)
		}
	case "text":
		k = api.Key{Code: codes[word], Text: said}
		if k.Code == 0 {
			k = field(strings.ToLower(word), said)
		}
	case "two":
		k = field(head.Small(rest[0].Text), said)
	case "number":
		n, err := strconv.ParseUint(said, 10, 31)
		k = sized(codes[word], int(n))
		if err != nil || len(said) > 1 && said[0] == '0' {
			e = api.ErrForm
		}
	case "set":
		set, err := seq.Parse(said)
		k, e = api.Key{Code: api.Uids, Set: set}, api.Tell(err)
	}
	return k, taken, e
}

// checkSecond holds Parse against the second reading.
func checkSecond(t *testing.T, l []api.Arg) {
	t.Helper()
	if want, e := second(l); e != api.OK {
		checkWrong(t, l, e)
	} else {
		checkKey(t, l, want)
	}
}

// TestSecondShort: all short lists of the parts that matter, and all of these in Lists.
func TestSecondShort(t *testing.T) {
	parts := args(`ALL SEEN unseen KEYWORD from HEADER LARGER UID NOT OR 7 "" x () (ALL) (1 not) (OR "SEEN" ALL)`)
	var grow func(l []api.Arg, more int)
	grow = func(l []api.Arg, more int) {
		checkSecond(t, l)
		if more > 0 {
			for _, part := range parts {
				grow(append(slices.Clone(l), part), more-1)
			}
		}
	}
	grow(nil, 4)
}

// drawn are parts as they come, of which most are keys.
func drawn(r *rand.Rand, deep int) []api.Arg {
	if deep > 0 {
		in := func() []api.Arg { return drawn(r, deep-1) }
		switch r.Intn(8) {
		case 0, 1:
			return append(args(`NOT`), in()...)
		case 2, 3:
			return append(append(args(`or`), in()...), in()...)
		case 4:
			return []api.Arg{list(append(in(), in()...)...)}
		case 5:
			return []api.Arg{list(in()...)}
		case 6:
			return append(in(), in()...)
		}
	}
	if r.Intn(60) == 0 {
		wrong := []string{`()`, `x`, `0`, ``, `""`, `NOT`, `OR`, `FROM`, `KEYWORD a-b`, `UID 0`, `LARGER 01`, `ON 2147483648`, `KEYWORD kkkkkkkkkkkkkkkkkkkkk`, ranges(21), `HEADER a ()`}
		return args(wrong[r.Intn(len(wrong))])
	}
	right := []string{`ALL`, `Seen`, `ANSWERED`, `undraft`, `UNFLAGGED`, `"DELETED"`, `KEYWORD work`, `UNKEYWORD "work"`, `KEYWORD \SEEN`, `FROM me`, `to ""`, `SUBJECT O`, `CC x`, `HEADER X-y B`, `BODY l`, `BODY ""`, `TEXT me`, `LARGER 40`, `SMALLER 50`, `BEFORE 3`, `ON 3`, `SINCE 3`, `UID 2:3`, `UID *`, `1`, `2:*`, `*,1`}
	return args(right[r.Intn(len(right))])
}

// TestSecondDrawn: drawn parts.
func TestSecondDrawn(t *testing.T) {
	r := rand.New(rand.NewSource(6))
	told := map[api.Errno]int{}
	for range 60_000 {
		l := drawn(r, r.Intn(12))
		checkSecond(t, l)
		_, e := second(l)
		told[e]++
	}
	if told[api.OK] < 1000 || told[api.ErrForm] < 1000 || told[api.ErrLimit] < 1000 {
		t.Errorf("of some there are too few: %v", told)
	}
}

func FuzzParse(f *testing.F) {
	for _, s := range []string{`OR (SEEN 1:*) NOT FROM "x"`, `((((((ALL)))))) KEYWORD a`, `NOT NOT NOT NOT NOT NOT NOT`, strings.Repeat("1 ", 60), `HEADER a b UID 1,2 LARGER 0 ()`} {
		f.Add(s)
	}
	f.Fuzz(func(t *testing.T, s string) {
		l := args(s)
		checkSecond(t, l)
		if k, err := Parse(l); err == nil {
			letter := api.Letter{UID: 2, Flags: []string{`\Seen`}, Day: 3, Text: s}
			if got, want := Holds(k, letter, 1, Box{Many: 2, Greatest: 3}), truth(k, letter, 1, Box{Many: 2, Greatest: 3}); got != want {
				t.Errorf("Holds(%+v, %+v) = %v", k, letter, got)
			}
		}
	})
}

// key is what a text looks for.
func key(t *testing.T, s string) api.Key {
	t.Helper()
	k, e := parse(t, args(s))
	if e != api.OK {
		t.Errorf("Parse(%q) tells %v", s, e)
	}
	return k
}

// checkHolds holds what Holds tells of what a text looks for, and of what it does not, against what is wanted.
func checkHolds(t *testing.T, s string, l api.Letter, which int, b Box, want bool) {
	t.Helper()
	k := key(t, s)
	if got := Holds(k, l, which, b); got != want {
		t.Errorf("%q: Holds(%+v, %+v, %d, %v) = %v", s, k, l, which, b, got)
	}
	if got := Holds(anti(k), l, which, b); got == want {
		t.Errorf("%q: Holds of Not (%+v, %+v, %d, %v) = %v", s, k, l, which, b, got)
	}
}

// TestHoldsFlags: a flag is one of the letter's, or none of them (6.2).
func TestHoldsFlags(t *testing.T) {
	five := []string{`\Seen`, `\Answered`, `\Flagged`, `\Deleted`, `\Draft`}
	for choice := range 1 << 7 {
		var l api.Letter
		for i, name := range append(slices.Clone(five), "Work", "a") {
			if choice>>i&1 == 1 {
				l.Flags = append(l.Flags, name)
			}
		}
		for i, name := range five {
			has := choice>>i&1 == 1
			checkHolds(t, name[1:], l, 1, Box{}, has)
			checkHolds(t, "UN"+name[1:], l, 1, Box{}, !has)
			checkHolds(t, "KEYWORD "+strings.ToUpper(name), l, 1, Box{}, has)
			checkHolds(t, "UNKEYWORD "+strings.ToLower(name), l, 1, Box{}, !has)
			checkHolds(t, "KEYWORD "+name[1:], l, 1, Box{}, false)
		}
		checkHolds(t, "KEYWORD Work", l, 1, Box{}, choice>>5&1 == 1)
		checkHolds(t, "UNKEYWORD Work", l, 1, Box{}, choice>>5&1 == 0)
		// others are the same in the same letters alone, and whole
		for _, s := range []string{"work", "WORK", "Wor", "Workk", "A", "b"} {
			checkHolds(t, "KEYWORD "+s, l, 1, Box{}, false)
			checkHolds(t, "UNKEYWORD "+s, l, 1, Box{}, true)
		}
		checkHolds(t, "KEYWORD a", l, 1, Box{}, choice>>6&1 == 1)
		checkHolds(t, "ALL", l, 1, Box{}, true)
	}
}

// sample is a message with a head and a body.
const sample = "From: Me@Here\r\nSubject: one\r\n\r\nHello\r\n"

// TestHoldsHead: a field of the name has the text, whatever letters are great (6.2).
func TestHoldsHead(t *testing.T) {
	const text = "From: Me@Here\r\nTO: you, him\r\nSubject: one\r\nX-Y: A\r\n\tb\r\nsubject: Two\r\nCc:\r\nDrink:caf\u00e9 \xff\r\n\r\nX-Z: body\r\nSubject: three\r\n"
	for s, want := range map[string]bool{
		`FROM me`: true, `FROM ME@HERE`: true, `from "e@H"`: true, `FROM ""`: true, `FROM you`: false, `FROM " me"`: false, `FROM from`: false, `FROM "me@here "`: false, `FROM me@heree`: false,
		`TO you`: true, `TO HIM`: true, `TO "u, h"`: true, `TO me`: false, `HEADER to YOU`: true, `HEADER To you`: true,
		// each field of the name
		`SUBJECT one`: true, `SUBJECT TWO`: true, `SUBJECT two`: true, `HEADER SUBJECT w`: true, `SUBJECT onetwo`: false, `SUBJECT "one two"`: false, `SUBJECT three`: false,
		// one that goes on
		`HEADER X-Y a`: true, `HEADER x-y B`: true, `HEADER X-y "a B"`: true, `HEADER X-Y ab`: false, `HEADER X a`: false, `HEADER X-Y: a`: false, `HEADER X-Y x-y`: false,
		// one that is empty, and those that are not there
		`CC ""`: true, `CC " "`: false, `CC x`: false, `HEADER Bcc ""`: false, `HEADER "" ""`: false, `HEADER X-Z body`: false, `HEADER X-Z ""`: false, `HEADER " cc" ""`: false,
		// bytes above 127
		"HEADER Drink caf\u00e9": true, "HEADER DRINK CAF\u00e9": true, "HEADER Drink CAF\u00c9": false, "HEADER Drink \xff": true, "HEADER Drink \xfe": false, "HEADER Drink \xa9": true, "HEADER Drin\u212a \"\"": false,
	} {
		checkHolds(t, s, api.Letter{Text: text}, 1, Box{}, want)
		// a text that is all head
		checkHolds(t, s, api.Letter{Text: text[:strings.Index(text, "\r\n\r\n")]}, 1, Box{}, want)
		checkHolds(t, s, api.Letter{}, 1, Box{}, false)
		// heads that Fields refuses
		for _, spoilt := range []string{"no field\r\n" + text, " ahead\r\n" + text, "a\nb: c\r\n" + text, ": x\r\n" + text, strings.Replace(text, "Cc:", "Cc", 1), strings.Replace(text, "Cc:", "C c:", 1), strings.Repeat("a:\r\n", api.MaxFields-6) + text} {
			checkHolds(t, s, api.Letter{Text: spoilt}, 1, Box{}, false)
		}
		checkHolds(t, s, api.Letter{Text: strings.Repeat("a:\r\n", api.MaxFields-7) + text}, 1, Box{}, want)
		// a head that is empty
		checkHolds(t, s, api.Letter{Text: "\r\n" + text}, 1, Box{}, false)
	}
}

// TestHoldsBody: the body, or the whole text, has the text, whatever letters are great (6.2).
func TestHoldsBody(t *testing.T) {
	const text = "Subject: Hidden\r\nTo: All\r\n\r\nHello  World\r\nca\u00e9\xffK\r\n\r\nend\x00[@`{"
	for s, want := range map[string][2]bool{
		"Hello": {true, true}, "hELLO": {true, true}, "world": {true, true}, "lo  wo": {true, true}, "lo wo": {false, false}, "hidden": {false, true}, "SUBJECT: h": {false, true}, "none": {false, false}, "": {true, true}, " ": {true, true},
		"all\r\n\r\nhello": {false, true}, "\r\n\r\n": {true, true}, "\r\n\r\nEND": {true, true}, "\r\n\r\nHELLO": {false, true}, "\r\n": {true, true}, "world\nca": {false, false},
		// bytes above 127, and signs that are no letters
		"CA\u00e9": {true, true}, "ca\u00c9": {false, false}, "\xff": {true, true}, "\xfe": {false, false}, "\xdf": {false, false}, "\xffk": {true, true}, "\xff\u212a": {false, false}, "\x00[@`{": {true, true}, "\x00{@`{": {false, false}, "\x00[``{": {false, false}, "END\x00": {true, true},
		strings.ToUpper("Hello  World"): {true, true}, text[len("Subject: Hidden\r\nTo: All\r\n\r\n"):]: {true, true}, text: {false, true}, text + " ": {false, false},
	} {
		l := api.Letter{Text: text}
		for i, code := range []int{api.Body, api.Text} {
			k, e := parse(t, []api.Arg{atom([]string{"BODY", "TEXT"}[i]), {Kind: api.String, Text: s}})
			if got := Holds(k, l, 1, Box{}); e != api.OK || k.Code != code || got != want[i] {
				t.Errorf("%q: Holds(%+v) = %v, %v", s, k, got, e)
			}
			if got := Holds(anti(k), l, 1, Box{}); got == want[i] {
				t.Errorf("%q: Holds of Not (%+v) = %v", s, k, got)
			}
		}
	}
	for _, c := range []struct {
		text, word string
		body, all  bool
	}{
		{"", `""`, true, true},
		{"", `a`, false, false},
		{"a: b", `b`, false, true},
		{"a: b", `""`, true, true},
		{"a: b\r\n", `b`, false, true},
		{"a: b\r\n\r\n", `""`, true, true},
		{"a: b\r\n\r\n", `b`, false, true},
		{"a: b\r\n\r\nc", `C`, true, true},
		{"\r\nc", `C`, true, true},
		{"c", `C`, false, true},
		{"\n\nc", `C`, false, true},
		// a head that Fields refuses has a body, too
		{"no field\r\n\r\nc", `C`, true, true},
		{"no field\r\n\r\nc", `FIELD`, false, true},
	} {
		checkHolds(t, "BODY "+c.word, api.Letter{Text: c.text}, 1, Box{}, c.body)
		checkHolds(t, "TEXT "+c.word, api.Letter{Text: c.text}, 1, Box{}, c.all)
	}
}

// TestHoldsNumbers: how many bytes, and which day: at just N, one below, and one above (6.2).
func TestHoldsNumbers(t *testing.T) {
	for _, n := range []int{0, 1, 2, 9, 2000} {
		for _, m := range []int{n - 1, n, n + 1} {
			s := " " + strconv.Itoa(n)
			if m >= 0 {
				l := api.Letter{Text: strings.Repeat("\u00e9", m/2) + strings.Repeat("x", m%2)}
				checkHolds(t, "LARGER"+s, l, 1, Box{}, m > n)
				checkHolds(t, "SMALLER"+s, l, 1, Box{}, m < n)
			}
			l := api.Letter{Day: m}
			checkHolds(t, "BEFORE"+s, l, 1, Box{}, m < n)
			checkHolds(t, "ON"+s, l, 1, Box{}, m == n)
			checkHolds(t, "SINCE"+s, l, 1, Box{}, m >= n)
		}
	}
	last := api.Letter{Day: api.MaxNumber, Text: "x"}
	for s, want := range map[string]bool{"BEFORE": false, "ON": true, "SINCE": true, "LARGER": false, "SMALLER": true} {
		checkHolds(t, s+" 2147483647", last, 1, Box{}, want)
	}
	// the head's bytes count, too
	checkHolds(t, "LARGER 9", api.Letter{Text: "a: b\r\n\r\ncd"}, 1, Box{}, true)
	checkHolds(t, "SMALLER 10", api.Letter{Text: "a: b\r\n\r\ncd"}, 1, Box{}, false)
}

// TestHoldsSets: Uids by the letter's UID and Greatest, Numbers by which and Many (6.2).
func TestHoldsSets(t *testing.T) {
	for _, s := range []string{"1", "3", "*", "2:3", "3:2", "2:*", "*:2", "1,3", "7:*", "*:*", "1,*", "1:*"} {
		set, _ := seq.Parse(s)
		for n := range 9 {
			for greatest := range 9 {
				want := seq.Has(set, n, greatest)
				// what is not asked for is something else
				checkHolds(t, "UID "+s, api.Letter{UID: n}, 100, Box{Many: 50, Greatest: greatest}, want)
				checkHolds(t, s, api.Letter{UID: 100}, n, Box{Many: greatest, Greatest: 50}, want)
			}
		}
	}
	for _, c := range []struct {
		s           string
		n, greatest int
		want        bool
	}{
		{"2:*", 3, 3, true}, {"2:*", 2, 3, true}, {"2:*", 1, 3, false}, {"*", 3, 3, true}, {"*", 2, 3, false}, {"7:*", 3, 3, true}, {"7:*", 5, 3, true}, {"7:*", 2, 3, false},
		// none is there
		{"*", 0, 0, true}, {"*", 1, 0, false}, {"1:*", 1, 0, true}, {"1:*", 2, 0, false}, {"1", 1, 0, true},
		{"2147483647", api.MaxNumber, api.MaxNumber, true}, {"1:*", api.MaxNumber, api.MaxNumber, true},
	} {
		checkHolds(t, "UID "+c.s, api.Letter{UID: c.n}, 0, Box{Greatest: c.greatest}, c.want)
		checkHolds(t, c.s, api.Letter{}, c.n, Box{Many: c.greatest}, c.want)
	}
}

// TestHoldsJoined: Not, Or and And in one another, over all that two, three and more may be (6.2).
func TestHoldsJoined(t *testing.T) {
	for choice := range 1 << 3 {
		a, b, c := choice&1 != 0, choice&2 != 0, choice&4 != 0
		var l api.Letter
		for i, name := range []string{"a", "b", "c"} {
			if choice>>i&1 == 1 {
				l.Flags = append(l.Flags, name)
			}
		}
		for s, want := range map[string]bool{
			"A": a, "(A)": a, "NOT A": !a, "NOT NOT A": a, "NOT (A)": !a,
			"A B": a && b, "A B C": a && b && c, "(A B) C": a && b && c, "A (B C)": a && b && c, "NOT (A B C)": !(a && b && c), "NOT A B C": !a && b && c,
			"OR A B": a || b, "OR A OR B C": a || b || c, "OR OR A B C": a || b || c, "OR A B C": (a || b) && c, "A OR B C": a && (b || c), "NOT OR A B": !a && !b, "NOT OR A OR B C": !a && !b && !c,
			"OR NOT A NOT B": !a || !b, "OR (A B) C": a && b || c, "OR (A B) (B C)": a && b || b && c, "OR A (B NOT C)": a || b && !c, "NOT (OR A B NOT C)": !((a || b) && !c), "OR (A NOT B) (NOT A B)": a != b, "NOT OR (A NOT B) (NOT A B) C": a == b && c,
		} {
			// one letter a word, so that the table above can be read
			checkHolds(t, strings.NewReplacer("A", "KEYWORD a", "B", "KEYWORD b", "C", "KEYWORD c").Replace(strings.ReplaceAll(strings.ReplaceAll(s, "NOT", "not"), "OR", "or")), l, 1, Box{}, want)
		}
	}
	// the last of many
	for many := 1; many <= api.MaxArgs; many++ {
		l := append(atoms("ALL", many-1), atom("SEEN"))
		k, _ := parse(t, l)
		if Holds(k, api.Letter{}, 1, Box{}) || !Holds(k, api.Letter{Flags: []string{`\Seen`}}, 1, Box{}) {
			t.Errorf("the last of %d keys is not looked at", many)
		}
	}
}

// small is a text with A to Z in small letters.
func small(s string) string {
	b := []byte(s)
	for i, c := range b {
		if 'A' <= c && c <= 'Z' {
			b[i] = c + 32
		}
	}
	return string(b)
}

// truth is a second reading of Holds: all keys are looked at, and none is left out.
func truth(k api.Key, l api.Letter, which int, b Box) bool {
	within := func(s string) bool { return strings.Contains(small(s), small(k.Text)) }
	held := 0
	for _, inner := range k.Keys {
		if truth(inner, l, which, b) {
			held++
		}
	}
	fields, err := head.Fields(l.Text)
	_, body := head.Split(l.Text)
	said := false
	for _, f := range fields {
		said = said || err == nil && small(f.Name) == k.Name && within(f.Value)
	}
	return map[int]bool{
		api.All: true, api.Flag: flags.Has(l.Flags, k.Name), api.Head: said, api.Body: within(body), api.Text: within(l.Text),
		api.Larger: len(l.Text)-k.N > 0, api.Smaller: len(l.Text)-k.N < 0, api.Before: l.Day-k.N < 0, api.On: l.Day-k.N == 0, api.Since: l.Day-k.N >= 0,
		api.Uids: seq.Has(k.Set, l.UID, b.Greatest), api.Numbers: seq.Has(k.Set, which, b.Many),
		api.Not: held == 0, api.Or: held > 0, api.And: held == len(k.Keys),
	}[k.Code]
}

// letter is one as it comes.
func letter(r *rand.Rand) api.Letter {
	l := api.Letter{UID: 1 + r.Intn(5), Day: r.Intn(6)}
	for _, name := range []string{`\Seen`, `\Answered`, `\Flagged`, `\Deleted`, `\Draft`, "work"} {
		if r.Intn(2) == 0 {
			l.Flags = append(l.Flags, name)
		}
	}
	for range r.Intn(4) {
		l.Text += []string{"From: Me\r\n", "TO: you\r\n", "subject: One\r\n", "Subject: w\r\n o\r\n", "X-Y: b\r\n", "cc: X\r\n", "no field\r\n"}[r.Intn(14)%7]
	}
	l.Text += []string{"", "\r\n", "\r\nHello\r\n", "\r\nME and you, and what is long\r\n"}[r.Intn(4)]
	return l
}

// TestHoldsDrawn: drawn keys at drawn letters, against the second reading; and what is looked for is a logic.
func TestHoldsDrawn(t *testing.T) {
	r := rand.New(rand.NewSource(8))
	so := map[bool]int{}
	for range 40_000 {
		a, b := drawn(r, r.Intn(4)), drawn(r, r.Intn(3))
		ka, errA := Parse(a)
		kb, errB := Parse(b)
		if errA != nil || errB != nil {
			continue
		}
		l, which, box := letter(r), r.Intn(6), Box{Many: r.Intn(6), Greatest: r.Intn(6)}
		isA, isB := Holds(ka, l, which, box), Holds(kb, l, which, box)
		so[isA]++
		if isA != truth(ka, l, which, box) || isB != truth(kb, l, which, box) {
			t.Errorf("Holds(%+v, %+v, %d, %v) = %v; Holds(%+v) = %v", ka, l, which, box, isA, kb, isB)
		}
		for _, c := range []struct {
			l    []api.Arg
			want bool
		}{
			{[]api.Arg{atom("NOT"), list(a...)}, !isA},
			{[]api.Arg{atom("OR"), list(a...), list(b...)}, isA || isB},
			{slices.Concat(a, b), isA && isB},
			{[]api.Arg{atom("NOT"), atom("OR"), atom("NOT"), list(a...), atom("NOT"), list(b...)}, isA && isB},
			{[]api.Arg{list(a...), atom("NOT"), list(a...)}, false},
			{[]api.Arg{atom("OR"), list(a...), atom("NOT"), list(a...)}, true},
		} {
			if k, err := Parse(c.l); err == nil && Holds(k, l, which, box) != c.want {
				t.Errorf("%v: Holds(%+v, %+v, %d, %v) is not %v", c.l, k, l, which, box, c.want)
			}
		}
	}
	if so[true] < 1000 || so[false] < 1000 {
		t.Errorf("of some there are too few: %v", so)
	}
}

// TestHoldsWrong: keys that Parse does not tell, and empty ones (P1).
func TestHoldsWrong(t *testing.T) {
	letters := []api.Letter{{}, {UID: 1, Flags: []string{`\Seen`, ""}, Day: 1, Text: sample}, {UID: -1, Day: -1 << 63, Text: "\xff\r\n\r\n"}}
	for _, l := range letters {
		for _, which := range []int{0, 1, -1, 1<<63 - 1, -1 << 63} {
			for _, b := range []Box{{}, {1, 1}, {-1, -1}, {1<<63 - 1, -1 << 63}} {
				for _, code := range []int{0, -1, 16, 1 << 40, -1 << 63} {
					if Holds(api.Key{Code: code, Keys: []api.Key{all, all}}, l, which, b) {
						t.Errorf("a key of the code %d holds", code)
					}
				}
				if Holds(api.Key{}, l, which, b) || !Holds(all, l, which, b) {
					t.Errorf("Holds(%+v, %d, %v) of an empty key, or of All", l, which, b)
				}
				for code := api.All; code <= api.And; code++ {
					for _, k := range []api.Key{{}, {N: -1 << 63, Set: []api.Range{{From: -1, To: 1 << 62}}, Keys: []api.Key{{}}}, {Name: "\xff", Text: "\xff", N: 1<<63 - 1, Keys: []api.Key{{Code: api.Not}, {Code: -1}}}} {
						k.Code = code
						Holds(k, l, which, b)
					}
				}
			}
		}
	}
	if Holds(api.Key{Code: api.Not}, api.Letter{}, 1, Box{}) || Holds(api.Key{Code: api.Or}, api.Letter{}, 1, Box{}) || !Holds(api.Key{Code: api.And}, api.Letter{}, 1, Box{}) {
		t.Errorf("Not, Or or And of no keys tells something else")
	}
	if Holds(api.Key{Code: api.Or, Keys: []api.Key{{}, {}}}, api.Letter{}, 1, Box{}) || !Holds(api.Key{Code: api.Or, Keys: []api.Key{{}, {}, all}}, api.Letter{}, 1, Box{}) {
		t.Errorf("Or of three keys tells something else")
	}
}

// TestInItself: keys and Lists that lie in themselves, or very deep in one another, come to an end (P1).
func TestInItself(t *testing.T) {
	begin := time.Now()
	for _, code := range []int{api.Not, api.Or, api.And} {
		l := make([]api.Key, 3)
		for i := range l {
			l[i] = api.Key{Code: code, Keys: l}
		}
		for _, k := range []api.Key{l[0], anti(l[0]), anti(anti(l[0])), either(l[0], all), both(all, l[0])} {
			if Holds(k, api.Letter{}, 1, Box{}) {
				t.Errorf("a key of the code %d that lies in itself holds", code)
			}
		}
		if !Holds(either(all, l[0]), api.Letter{}, 1, Box{}) {
			t.Errorf("a key holds no more beside one that lies in itself")
		}
	}
	k := all
	for i := range 1<<16 + 1 {
		if i%1024 == 0 && Holds(k, api.Letter{}, 1, Box{}) != (i%2 == 0) {
			t.Errorf("a key in %d Nots tells something else", i)
		}
		k = anti(k)
	}
	deep := args(`ALL`)
	for range 1 << 16 {
		deep = []api.Arg{list(deep...)}
	}
	checkWrong(t, deep, api.ErrLimit)
	checkWrong(t, append(args(`NOT FROM x`), deep...), api.ErrLimit)
	checkWrong(t, append(args(`FROM`), deep...), api.ErrForm)
	round := make([]api.Arg, 2)
	round[0], round[1] = list(round...), atom("ALL")
	round[0].List = round
	checkRound(t, round, api.ErrLimit)
	round[0], round[1] = atom("x"), list(round...)
	checkRound(t, round, api.ErrForm)
	if took := time.Since(begin); took > 20*time.Second {
		t.Errorf("it took %v", took)
	}
}

// checkRound is checkWrong of what lies in itself, and can't be printed.
func checkRound(t *testing.T, l []api.Arg, want api.Errno) {
	t.Helper()
	if _, err := Parse(l); api.Tell(err) != want {
		t.Errorf("Parse tells %v, not %v", err, want)
	}
}

// TestGreat: great texts take no longer than they are long.
func TestGreat(t *testing.T) {
	begin := time.Now()
	long := strings.Repeat("Ab", 1_000_000)
	for _, s := range []string{long, "BODY", "FROM"} {
		checkSecond(t, []api.Arg{atom(s), atom(long)})
	}
	checkWrong(t, []api.Arg{atom("KEYWORD"), atom(long)}, api.ErrLimit)
	l := api.Letter{Text: "From: " + long + "\r\n\r\n" + long}
	for _, word := range []string{"BODY", "TEXT", "FROM"} {
		for text, want := range map[string]bool{strings.ToLower(long): true, long + "a": false, strings.Repeat("ab", 1000) + "b": false} {
			k, _ := parse(t, []api.Arg{atom(word), atom(text)})
			if Holds(k, l, 1, Box{}) != want {
				t.Errorf("%s of a long text is not %v", word, want)
			}
		}
	}
	wide := api.Key{Code: api.And, Keys: slices.Repeat([]api.Key{all}, 1_000_000)}
	if !Holds(wide, api.Letter{}, 1, Box{}) {
		t.Errorf("a wide key does not hold")
	}
	if took := time.Since(begin); took > 20*time.Second {
		t.Errorf("it took %v", took)
	}
}

// copied is a list in memory of its own.
func copied(l []api.Arg) []api.Arg {
	var out []api.Arg
	for _, a := range l {
		a.List = copied(a.List)
		out = append(out, a)
	}
	return out
}

// spoil writes into all of a key, and behind its lists.
func spoil(k *api.Key) {
	for i := range k.Keys {
		spoil(&k.Keys[i])
	}
	for i := range k.Keys[:cap(k.Keys)] {
		k.Keys[:cap(k.Keys)][i] = api.Key{Code: 99}
	}
	for i := range k.Set[:cap(k.Set)] {
		k.Set[:cap(k.Set)][i] = api.Range{From: 99, To: 99}
	}
	*k = api.Key{Code: 99}
}

// TestNothingWritten: what is handed in stays, also behind a list's length, and what comes out is the caller's (P4).
func TestNothingWritten(t *testing.T) {
	l := args(`OR (SEEN 1:2,7 UID 3 DRAFT) NOT KEYWORD x (ALL (UNSEEN 4) 5) "behind" (x)`)
	l[1].List = l[1].List[:4]
	before := copied(l)
	short := l[:len(l)-2]
	k, e := parse(t, short)
	other, _ := parse(t, short)
	want, _ := second(short)
	if e != api.OK || !same(k, want) {
		t.Fatalf("Parse = %+v, %v", k, e)
	}
	spoil(&k)
	if !reflect.DeepEqual(copied(l), before) || !reflect.DeepEqual(l[1].List[:5][4], atom("DRAFT")) {
		t.Errorf("Parse wrote into what it was given: %v", l)
	}
	if !same(other, want) {
		t.Errorf("two answers share memory: %+v", other)
	}
	checkKey(t, short, want)
	// no two lists of one answer share any
	twice, _ := parse(t, args(`(1 2) (1 2) UID 1:2 UID 1:2 NOT 1 NOT 1`))
	spoil(&twice.Keys[0])
	spoil(&twice.Keys[2])
	spoil(&twice.Keys[4])
	one := ranged(api.Numbers, 1, 1)
	if !same(twice.Keys[1], both(one, ranged(api.Numbers, 2, 2))) || !same(twice.Keys[3], ranged(api.Uids, 1, 2)) || !same(twice.Keys[5], anti(one)) {
		t.Errorf("lists of one answer share memory: %+v", twice)
	}
	// what Holds is given
	made := []string{`\Seen`, "a", "b"}
	letter := api.Letter{UID: 2, Flags: made[:1], Day: 3, Text: sample}
	kept := api.Letter{UID: 2, Flags: []string{`\Seen`}, Day: 3, Text: sample}
	for range 2 {
		if Holds(other, letter, 5, Box{Many: 5, Greatest: 3}) != truth(want, kept, 5, Box{Many: 5, Greatest: 3}) {
			t.Errorf("Holds of a joined key tells something else")
		}
	}
	if !same(other, want) || !reflect.DeepEqual(letter, kept) || !slices.Equal(made, []string{`\Seen`, "a", "b"}) {
		t.Errorf("Holds wrote into what it was given: %+v, %+v, %q", other, letter, made)
	}
}
