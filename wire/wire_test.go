package wire

import (
	"errors"
	"fmt"
	"math/big"
	"math/rand"
	"reflect"
	"regexp"
	"slices"
	"strconv"
	"strings"
	"testing"
	"time"

	"letterbox/api"
)

// brief is a text in quotes, cut where it is long.
func brief(s string) string {
	if len(s) > 200 {
		return fmt.Sprintf("%q.. (%d bytes)", s[:200], len(s))
	}
	return strconv.Quote(s)
}

// x is so many bytes.
func x(many int) string { return strings.Repeat("x", many) }

// next is Next; what is wrong must be told plainly, and beside no n.
func next(t *testing.T, s string) (n, waits int, e api.Errno) {
	t.Helper()
	n, waits, err := Next(s)
	if err != nil && err != api.ErrLimit {
		t.Errorf("Next(%s) tells %#v", brief(s), err)
	}
	if err != nil && n != 0 {
		t.Errorf("Next(%s) = %d beside an error", brief(s), n)
	}
	return n, waits, api.Tell(err)
}

// checkNext holds what Next tells against what is wanted.
func checkNext(t *testing.T, s string, n, waits int, e api.Errno) {
	t.Helper()
	if gotN, gotWaits, gotE := next(t, s); gotN != n || gotWaits != waits || gotE != e {
		t.Errorf("Next(%s) = %d, %d, %v, not %d, %d, %v", brief(s), gotN, gotWaits, gotE, n, waits, e)
	}
}

// TestNextLines: a command is a line up to its CR LF; what has none is not whole (7.1).
func TestNextLines(t *testing.T) {
	for s, n := range map[string]int{
		// not whole
		"": 0, "a": 0, "a b": 0, "\r": 0, "\n": 0, "a\r": 0, "a\n": 0, "a\rb\n": 0, "\n\r": 0, "a\n\nb": 0, "a\r\rb": 0, "a\\r\\n": 0, "a \r \n": 0, "\x00": 0,
		// whole
		"\r\n": 2, "a\r\n": 3, "a b\r\n": 5, "\r\r\n": 3, "\n\r\n": 3, "a\rb\r\n": 5, "a\nb\r\n": 5, "\n\n\r\n": 4, "\x00\xff\r\n": 4, "\u00e9\r\n": 4, "a ( \" \\\r\n": 9,
		// with more behind
		"\r\n\r\n": 2, "a\r\nb": 3, "a\r\nb\r\n": 3, "a b\r\n c\r\n": 5, "a\r\n{5}\r\n": 3, "a\r\n\r": 3, "a\r\n\n": 3, "a\r\n" + x(5000): 3, "a\r\n" + x(5000) + "\r\n": 3,
	} {
		checkNext(t, s, n, 0, api.OK)
	}
}

// TestNextBytes: a line that ends with {N} wants N bytes, and another line (7.1).
func TestNextBytes(t *testing.T) {
	for _, c := range []struct {
		s        string
		n, waits int
	}{
		// as long as the line is not whole nothing is told
		{"a {3}", 0, 0},
		{"a {3}\r", 0, 0},
		{"a {3}\n", 0, 0},
		// fewer than N
		{"a {3}\r\n", 0, 1},
		{"a {3}\r\nx", 0, 1},
		{"a {3}\r\nxy", 0, 1},
		{"a {4}\r\nx\r\n", 0, 1},
		// just N, and no line
		{"a {3}\r\nxyz", 0, 1},
		{"a {3}\r\nxyz\r", 0, 1},
		{"a {3}\r\nxyz b\n", 0, 1},
		{"a {3}\r\nx\r\n", 0, 1},
		{"a {2}\r\n\r\n", 0, 1},
		// CR and LF are of the line, not of the bytes ahead
		{"a {3}\r\nxy\r\n", 0, 1},
		{"a {3}\r\nxy\r\n\r\n", 13, 1},
		// and a line behind
		{"a {3}\r\nxyz\r\n", 12, 1},
		{"a {3}\r\nxyz b\r\n", 14, 1},
		{"a {3}\r\nxyz b\r\nmore", 14, 1},
		{"a {3}\r\nxyz b\r\nc {9}\r\n", 14, 1},
		{"{3}\r\nxyz\r\n", 10, 1},
		{"{0}\r\n\r\n", 7, 1},
		{"{0}\r\n", 0, 1},
		{"{0}\r\nx", 0, 1},
		{"a {10}\r\n0123456789\r\n", 20, 1},
		// bytes that hold CR LF, or {N}
		{"a {2}\r\n\r\n\r\n", 11, 1},
		{"a {4}\r\n\r\n\r\n\r\n", 13, 1},
		{"a {6}\r\n{9}\r\n_\r\n", 15, 1},
		{"a {5}\r\n{9}\r\n", 0, 1},
		{"a {5}\r\n{9}\r\n\r\n", 14, 1},
		{"a {3}\r\n{9}\r\n", 12, 1},
		// what stands in the bytes is not of the line
		{"a {1}\r\n{9}\r\n", 12, 1},
		{"a {2}\r\n{9}\r\n", 12, 1},
		{"a {0}\r\n{1}\r\n_\r\n", 15, 2},
		// several
		{"a {1}\r\n_ {2}\r\n__ {0}\r\n\r\n", 24, 3},
		{"a {1}\r\n_ {2}\r\n__ {0}\r\n", 0, 3},
		{"a {1}\r\n_ {2}\r\n__ {0}", 0, 2},
		{"a {1}\r\n_ {2}\r\n_", 0, 2},
		{"a {1}\r\n_ {2}\r\n", 0, 2},
		{"a {1}\r\n_ {2}", 0, 1},
		{"a {1}\r\n_{1}\r\n_{1}\r\n_\r\nb {1}\r\n_\r\n", 22, 3},
		{strings.Repeat("{0}\r\n", 500) + "\r\n", 2502, 500},
		{strings.Repeat("{0}\r\n", 500), 0, 500},
		{strings.Repeat("{1}\r\n_", 400) + "\r\n_", 2402, 400},
	} {
		checkNext(t, c.s, c.n, c.waits, api.OK)
	}
}

// numbers are what may stand between { and }, and whether it is an N.
var numbers = []struct {
	text string
	is   bool
}{
	{"0", true}, {"1", true}, {"9", true}, {"10", true}, {"99", true}, {"100", true}, {"2147483647", true}, {"2147483648", true}, {"4294967296", true}, {"4611686018427387903", true}, {"4611686018427387904", true},
	{"4611686018427387905", false}, {"4611686018427387910", false}, {"5000000000000000000", false}, {"9223372036854775807", false}, {"9223372036854775808", false}, {"18446744073709551615", false}, {"18446744073709551616", false}, {"18446744073709551617", false}, {"36893488147419103233", false},
	{strings.Repeat("9", 50), false}, {"1" + strings.Repeat("0", 500), false}, {strings.Repeat("0", 500), false}, {strings.Repeat("0", 30) + "1", false},
	{"", false}, {" ", false}, {"00", false}, {"01", false}, {"001", false}, {"+1", false}, {"-1", false}, {"+0", false}, {"-0", false}, {"-", false}, {"+", false}, {"1+", false}, {" 1", false}, {"1 ", false}, {"1 1", false}, {"1\n", false}, {"1\r", false}, {"x", false}, {"1x", false}, {"x1", false}, {"0x1", false}, {"0b1", false}, {"1_0", false}, {"1e1", false}, {"1.", false}, {"1.0", false}, {"1,0", false}, {"\x00", false}, {"1\x00", false}, {"\u0661", false}, {"\uff11", false}, {"\xff", false}, {"1}", false}, {"}", false}, {"}1", false}, {"1}1", false}, {"\"1", false}, {"(1)", false},
}

// TestNextNumbers: which N is one (7.1).
func TestNextNumbers(t *testing.T) {
	for _, c := range numbers {
		s := "a {" + c.text + "}\r\n"
		if !c.is {
			checkNext(t, s, len(s), 0, api.OK)
			checkNext(t, s+"more\r\n", len(s), 0, api.OK)
			checkNext(t, "{0}\r\n"+s, len(s)+5, 1, api.OK)
			continue
		}
		if n, err := strconv.Atoi(c.text); err == nil && n < 1000 {
			checkNext(t, s, 0, 1, api.OK)
			checkNext(t, s+x(n)+"\r\n", len(s)+n+2, 1, api.OK)
			continue
		}
		checkNext(t, s, 0, 0, api.ErrLimit)
		checkNext(t, "{0}\r\n"+s, 0, 1, api.ErrLimit)
	}
	// from the last { on, up to the line's end
	for s, tells := range map[string]bool{
		"{1}": true, "a{1}": true, "a {1}": true, "{{1}": true, "{{{1}": true, "{2{1}": true, "{2}{1}": true, "{2} {1}": true, "}{1}": true, "\"{1}": true, "\\{1}": true, "\r{1}": true, "\n{1}": true, "\x00\xff{1}": true, "{1{1}": true, "{x}{1}": true, "({1}": true,
		"{1": false, "1}": false, "}1{": false, "{1} ": false, "{1}x": false, "{1}}": false, "{1}{": false, "{1}{}": false, "{1}{x}": false, "{1}{01}": false, "{1}{1} ": false, "{1{}": false, "{1}\r": false, "{1}\n": false, "{1}\"": false, "{1}.": false, "{1+}": false, "{": false, "}": false, "{}": false, "}{": false, "(1)": false, "[1]": false, "{1)": false, "{1]": false, "1": false, "{{1}}": false,
	} {
		line := s + "\r\n"
		if tells {
			checkNext(t, line, 0, 1, api.OK)
			checkNext(t, line+"_", 0, 1, api.OK)
			checkNext(t, line+"_\r\n", len(line)+3, 1, api.OK)
		} else {
			checkNext(t, line, len(line), 0, api.OK)
			checkNext(t, line+"_\r\n", len(line), 0, api.OK)
		}
	}
}

// TestNextLimit: MaxLine bytes, and one more (7.1).
func TestNextLimit(t *testing.T) {
	const most = api.MaxLine
	for _, c := range []struct {
		s        string
		n, waits int
		e        api.Errno
	}{
		// without CR LF
		{x(most - 1), 0, 0, api.OK},
		{x(most), 0, 0, api.OK},
		{x(most + 1), 0, 0, api.ErrLimit},
		{x(2 * most), 0, 0, api.ErrLimit},
		{x(most-1) + "\r", 0, 0, api.OK},
		{x(most) + "\r", 0, 0, api.ErrLimit},
		{x(most-1) + "\n", 0, 0, api.OK},
		{x(most) + "\n", 0, 0, api.ErrLimit},
		{strings.Repeat("\r", most), 0, 0, api.OK},
		{strings.Repeat("\n", most+1), 0, 0, api.ErrLimit},
		// with it
		{x(most-3) + "\r\n", most - 1, 0, api.OK},
		{x(most-2) + "\r\n", most, 0, api.OK},
		{x(most-2) + "\r\nmore", most, 0, api.OK},
		{x(most-2) + "\r\n" + x(most), most, 0, api.OK},
		{x(most-1) + "\r\n", 0, 0, api.ErrLimit},
		{x(most) + "\r\n", 0, 0, api.ErrLimit},
		{x(2*most) + "\r\n", 0, 0, api.ErrLimit},
		{"a\r\n" + x(2*most), 3, 0, api.OK},
		// N bytes that would make just MaxLine, and one more
		{"a {2991}\r\n", 0, 0, api.ErrLimit},
		{"a {2990}\r\n", 0, 1, api.OK},
		{"a {2989}\r\n", 0, 1, api.OK},
		{"a {2990}\r\n" + x(2989), 0, 1, api.OK},
		{"a {2990}\r\n" + x(2990), 0, 1, api.OK},
		{"a {2991}\r\n" + x(2991), 0, 0, api.ErrLimit},
		{"a {2991}\r\n" + x(2991) + "\r\n", 0, 0, api.ErrLimit},
		// and the line behind them
		{"a {2990}\r\n" + x(2991), 0, 1, api.ErrLimit},
		{"a {2990}\r\n" + x(2990) + "\r", 0, 1, api.ErrLimit},
		{"a {2990}\r\n" + x(2990) + "\r\n", 0, 1, api.ErrLimit},
		{"a {2989}\r\n" + x(2989) + "\r", 0, 1, api.OK},
		{"a {2989}\r\n" + x(2989) + "\r\n", 0, 1, api.ErrLimit},
		{"a {2988}\r\n" + x(2988) + "\r\n", most, 1, api.OK},
		{"a {2988}\r\n" + x(2988) + "\r\nmore", most, 1, api.OK},
		{"a {2988}\r\n" + x(2988) + "x\r\n", 0, 1, api.ErrLimit},
		{"a {2988}\r\n" + x(2990), 0, 1, api.OK},
		{"a {2988}\r\n" + x(2991), 0, 1, api.ErrLimit},
		{"a {2988}\r\n" + strings.Repeat("\r\n", 1494), 0, 1, api.OK},
		{"a {2988}\r\n" + strings.Repeat("\r\n", 1495), most, 1, api.OK},
		// a line that is too long by itself, with an N
		{x(most-5) + "{0}\r\n", 0, 1, api.OK},
		{x(most-5) + "{0}\r\n\r\n", 0, 1, api.ErrLimit},
		{x(most-4) + "{0}\r\n", 0, 0, api.ErrLimit},
		{x(most-7) + "{0}\r\n\r\n", most, 1, api.OK},
		// several: those ahead are counted
		{"{0}\r\n{0}\r\n{2983}\r\n", 0, 2, api.ErrLimit},
		{"{0}\r\n{0}\r\n{2982}\r\n", 0, 3, api.OK},
		{"{0}\r\n{0}\r\n{2980}\r\n" + x(2980) + "\r\n", most, 3, api.OK},
		{"{0}\r\n{0}\r\n{2980}\r\n" + x(2981) + "\r\n", 0, 3, api.ErrLimit},
		{"{1000}\r\n" + x(1000) + "{1000}\r\n" + x(1000) + "{976}\r\n", 0, 3, api.OK},
		{"{1000}\r\n" + x(1000) + "{1000}\r\n" + x(1000) + "{978}\r\n", 0, 2, api.ErrLimit},
		{strings.Repeat("{0}\r\n", 600), 0, 600, api.OK},
		{strings.Repeat("{0}\r\n", 601), 0, 600, api.ErrLimit},
		{strings.Repeat("{0}\r\n", 600) + "\r\n", 0, 600, api.ErrLimit},
		{strings.Repeat("{0}\r\n", 600) + "\r", 0, 600, api.ErrLimit},
		{strings.Repeat("{0}\r\n", 599) + "x\r\n", 2998, 599, api.OK},
		// the greatest N
		{"{4611686018427387904}\r\n", 0, 0, api.ErrLimit},
		{"{4611686018427387905}\r\n", 23, 0, api.OK},
		{"{0}\r\n{4611686018427387904}\r\n", 0, 1, api.ErrLimit},
		{"{0}\r\n{4611686018427387905}\r\n", 28, 1, api.OK},
	} {
		checkNext(t, c.s, c.n, c.waits, c.e)
	}
}

var endingNumber = regexp.MustCompile(`\{(0|[1-9][0-9]*)\}\z`)

// secondNext cuts a command off, byte by byte, as the chapter's words go.
func secondNext(s string) (n, waits int, e api.Errno) {
	from := 0
	for i := 0; ; i++ {
		if i+1 >= len(s) {
			if len(s) > 3000 {
				e = api.ErrLimit
			}
			return 0, waits, e
		}
		if s[i] != '\r' || s[i+1] != '\n' {
			continue
		}
		more, is := new(big.Int), false
		if m := endingNumber.FindStringSubmatch(s[from:i]); m != nil {
			more.SetString(m[1], 10)
			is = more.Cmp(new(big.Int).Lsh(big.NewInt(1), 62)) <= 0
		}
		from = i + 2
		if from > 3000 || is && new(big.Int).Add(more, big.NewInt(int64(from))).Cmp(big.NewInt(3000)) > 0 {
			return 0, waits, api.ErrLimit
		}
		if !is {
			return from, waits, api.OK
		}
		waits++
		from += int(more.Int64())
		if from > len(s) {
			return 0, waits, api.OK
		}
		i = from - 1
	}
}

// checkSecondNext holds Next against the second reading.
func checkSecondNext(t *testing.T, s string) {
	t.Helper()
	n, waits, e := secondNext(s)
	checkNext(t, s, n, waits, e)
}

// grow calls look with all texts of at most so many of some pieces.
func grow(pieces []string, most int, look func(string)) {
	var add func(s string, more int)
	add = func(s string, more int) {
		look(s)
		if more > 0 {
			for _, p := range pieces {
				add(s+p, more-1)
			}
		}
	}
	add("", most)
}

// TestNextSecond: all short texts of the bytes that matter, also where the limit is near, and drawn ones.
func TestNextSecond(t *testing.T) {
	grow([]string{"{", "}", "0", "2", "-", "\r", "\n", "\r\n"}, 6, func(s string) { checkSecondNext(t, s) })
	grow([]string{"{2}", "{0}", "{12}", "{30", "}", "\r\n", "\r", "ab"}, 6, func(s string) { checkSecondNext(t, s) })
	for ahead := api.MaxLine - 12; ahead <= api.MaxLine+1; ahead++ {
		grow([]string{"{0}", "{2}", "\r\n", "\r", "x"}, 4, func(s string) {
			checkSecondNext(t, x(ahead)+s)
			digits := strconv.Itoa(ahead - len("{0000}\r\n"))
			checkSecondNext(t, "{"+digits+"}\r\n"+x(ahead-len("{0000}\r\n"))+s)
		})
	}
	r := rand.New(rand.NewSource(7))
	for range 20_000 {
		checkSecondNext(t, drawnBytes(r))
	}
}

// drawnBytes are lines as they come, with and without an N, near the limit and far from it.
func drawnBytes(r *rand.Rand) string {
	s := ""
	for range r.Intn(7) {
		s += x(r.Intn(4) * r.Intn(400))
		switch r.Intn(6) {
		case 0:
			s += "\r\n"
		case 1:
			s += "{" + strconv.Itoa(r.Intn(1500)) + "}"
		case 2, 3, 4:
			n := r.Intn(3) * r.Intn(700)
			s += "{" + strconv.Itoa(n) + "}\r\n" + strings.Repeat("\r\n", n/2) + x(n%2)
		case 5:
			s += "{" + strconv.Itoa(max(0, 2990-len(s)+r.Intn(12))) + "}\r\n"
		}
	}
	return s
}

// TestNextPieces: bytes in pieces are bytes: what is cut off hangs neither on what is not yet there, nor on what stands behind (7.1).
func TestNextPieces(t *testing.T) {
	commands := []string{"a NOOP\r\n", "b x {3}\r\n\r\n_ {0}\r\n (y)\r\n", "\r\n", "c {5}\r\n{9}\r\n\r\n", "{0}\r\n{0}\r\n\r\n", "d " + x(2000) + " {900}\r\n" + x(900) + "\r\n"}
	for _, c := range commands {
		whole, all, e := next(t, c)
		if whole != len(c) || e != api.OK {
			t.Fatalf("Next(%s) = %d, %d, %v", brief(c), whole, all, e)
		}
		before := 0
		for i := range len(c) {
			n, waits, e := next(t, c[:i])
			if n != 0 || e != api.OK || waits < before || waits > all {
				t.Errorf("Next(%s) = %d, %d, %v", brief(c[:i]), n, waits, e)
			}
			before = waits
		}
		for _, more := range append(commands, "{", "\n", "{3}\r\n", x(4000)) {
			checkNext(t, c+more, whole, all, api.OK)
		}
	}
	rest := strings.Join(commands, "")
	for _, c := range commands {
		n, _, _ := next(t, rest)
		if rest[:n] != c {
			t.Errorf("cut off %s, not %s", brief(rest[:n]), brief(c))
		}
		rest = rest[n:]
	}
}

// atom, text and list are Args.
func atom(s string) api.Arg { return api.Arg{Kind: api.Atom, Text: s} }

func text(s string) api.Arg { return api.Arg{Kind: api.String, Text: s} }

func list(l ...api.Arg) api.Arg { return api.Arg{Kind: api.List, List: l} }

// sameArg holds two Args against each other, field by field (an empty list may be nil).
func sameArg(a, b api.Arg) bool {
	return a.Kind == b.Kind && a.Text == b.Text && slices.EqualFunc(a.List, b.List, sameArg)
}

// same holds two commands against each other.
func same(a, b api.Command) bool {
	return a.Tag == b.Tag && a.Name == b.Name && slices.EqualFunc(a.Args, b.Args, sameArg)
}

// parse is Parse; what is wrong must be told with its place, and beside nothing.
func parse(t *testing.T, s string) (c api.Command, e api.Errno, place int) {
	t.Helper()
	c, err := Parse(s)
	if err == nil {
		return c, api.OK, 0
	}
	if !reflect.DeepEqual(c, api.Command{}) {
		t.Errorf("Parse(%s) = %v beside an error", brief(s), c)
	}
	var at *api.At
	if !errors.As(err, &at) || at == nil {
		t.Errorf("Parse(%s) tells no At: %#v", brief(s), err)
		return c, api.Tell(err), -1
	}
	if api.Tell(err) != at.Err {
		t.Errorf("Parse(%s) tells %v, and %v", brief(s), api.Tell(err), at.Err)
	}
	return c, at.Err, at.Place
}

// checkCommand holds what Parse tells against a command.
func checkCommand(t *testing.T, s string, want api.Command) {
	t.Helper()
	if c, e, place := parse(t, s); e != api.OK || !same(c, want) {
		t.Errorf("Parse(%s) = %+v, %v at %d, not %+v", brief(s), c, e, place, want)
	}
}

// checkArgs holds what Parse tells of a command's Args, as they are written.
func checkArgs(t *testing.T, s string, want ...api.Arg) {
	t.Helper()
	checkCommand(t, "a b "+s+"\r\n", api.Command{Tag: "a", Name: "B", Args: want})
}

// checkWrong holds what Parse tells against an error at a place.
func checkWrong(t *testing.T, s string, want api.Errno, at int) {
	t.Helper()
	if c, e, place := parse(t, s); e != want || place != at {
		t.Errorf("Parse(%s) = %+v, %v at %d, not %v at %d", brief(s), c, e, place, want, at)
	}
}

// checkForm looks for ErrForm where a | stands in a text, which is left out.
func checkForm(t *testing.T, s string) {
	t.Helper()
	ahead, behind, found := strings.Cut(s, "|")
	if !found {
		t.Fatalf("%s has no place", brief(s))
	}
	checkWrong(t, ahead+behind, api.ErrForm, len(ahead))
}

// TestParseHead: what a command is called by, a blank, and its name in great letters (7.2).
func TestParseHead(t *testing.T) {
	for s, want := range map[string]api.Command{
		"a b\r\n":                 {Tag: "a", Name: "B"},
		"A B\r\n":                 {Tag: "A", Name: "B"},
		"a1 noop\r\n":             {Tag: "a1", Name: "NOOP"},
		"Tag LogIn\r\n":           {Tag: "Tag", Name: "LOGIN"},
		"1 2\r\n":                 {Tag: "1", Name: "2"},
		"} }\r\n":                 {Tag: "}", Name: "}"},
		`\ \` + "\r\n":            {Tag: `\`, Name: `\`},
		"* %\r\n":                 {Tag: "*", Name: "%"},
		"a@[`{z c\r\n":            {},
		"a@[`|~ @az[`|}~\r\n":     {Tag: "a@[`|~", Name: "@AZ[`|}~"},
		"+ OK x\r\n":              {Tag: "+", Name: "OK", Args: []api.Arg{atom("x")}},
		x(5000) + " b\r\n":        {Tag: x(5000), Name: "B"},
		"a " + x(5000) + "\r\n":   {Tag: "a", Name: strings.Repeat("X", 5000)},
		"a b " + x(5000) + "\r\n": {Tag: "a", Name: "B", Args: []api.Arg{atom(x(5000))}},
	} {
		if want.Tag == "" {
			checkWrong(t, s, api.ErrForm, strings.Index(s, "{"))
			continue
		}
		checkCommand(t, s, want)
	}
	for _, s := range []string{
		// something is missing
		"|\r\n", "a|\r\n", "a |\r\n", "| \r\n", "| b\r\n", "|  \r\n", "a b |\r\n", "a b c |\r\n",
		// two blanks
		"a | b\r\n", "|  b\r\n", "a b | c\r\n", "a b c | d\r\n", "a b | \r\n", "a | \r\n",
		// other bytes between
		"a|\tb\r\n", "a|\nb\r\n", "a|\rb\r\n", "a|\x00b\r\n", "a|\u00a0b\r\n", "a |\tb\r\n", "a b|\tc\r\n", "a b |\tc\r\n", "a|\xffb c\r\n",
		// what is no WORD
		"|\"a\" b\r\n", "a |\"b\"\r\n", "|(a) b\r\n", "a |(b)\r\n", "|{1}\r\na b\r\n", "a |{1}\r\nb\r\n", "|) b\r\n", "a |)\r\n", "a|(b c\r\n", "a b|(c)\r\n", "a b|\"c\"\r\n", "a b|{1}\r\nc\r\n", "a b|)\r\n",
		// lines behind one another
		"|\r\n\r\n", "a|\r\n b\r\n", "a |\r\nb\r\n", "a b|\r\n\r\n", "a b|\r\nc d\r\n", "a b c|\r\n\r\n", "a b |\r\nc\r\n", "a b |\r\n\r\n", "a b|\r\r\n", "a b|\n\r\n", "a b c|\n\r\n", "a b c|\r\r\n", "a b|\r\n c\r\n",
	} {
		checkForm(t, s)
	}
}

// TestParseEnd: no CR LF at the end is wrong at 0, whatever else is (7.2).
func TestParseEnd(t *testing.T) {
	for _, s := range []string{"", "\r", "\n", "\n\r", "a", "a b", "a b\r", "a b\n", "a b\n\r", "a b\r\n ", "a b\r\nc", "a b\r\n\n", "a b\r\n\r", "a b c", "a  b", " a b", "a b (", "a b \"x", "a b {1}\r\nx", "a b {2}\r\n\r", "\xff\xff", "a b" + strings.Repeat(" x", 70), "a b " + strings.Repeat("(", 20), "a b\\r\\n", x(4000)} {
		checkWrong(t, s, api.ErrForm, 0)
	}
}

// TestParseWord: which bytes a WORD may have, one by one (7.2).
func TestParseWord(t *testing.T) {
	for i := range 256 {
		c := byte(i)
		s := string([]byte{c})
		great := s
		if c >= 'a' && c <= 'z' {
			great = string([]byte{c - 32})
		}
		if c >= 33 && c <= 126 && !strings.Contains("(){\"", s) {
			for _, w := range []struct{ ahead, behind string }{{"", ""}, {"x", ""}, {"", "x"}, {"x", "x"}} {
				word := w.ahead + s + w.behind
				checkCommand(t, word+" b\r\n", api.Command{Tag: word, Name: "B"})
				checkCommand(t, "a "+word+"\r\n", api.Command{Tag: "a", Name: strings.ToUpper(w.ahead) + great + strings.ToUpper(w.behind)})
				checkArgs(t, word, atom(word))
				checkArgs(t, "("+word+" "+word+")", list(atom(word), atom(word)))
			}
			continue
		}
		checkWrong(t, s+"x b\r\n", api.ErrForm, 0)
		checkWrong(t, "a "+s+"x\r\n", api.ErrForm, 2)
		if c != ' ' {
			checkWrong(t, "x"+s+"x b\r\n", api.ErrForm, 1)
			checkWrong(t, "a b"+s+"x\r\n", api.ErrForm, 3)
			checkWrong(t, "a b x"+s+"x\r\n", api.ErrForm, 5)
			checkWrong(t, "a b x"+s+"\r\n", api.ErrForm, 5)
			checkWrong(t, "a b "+s+"\r\n", api.ErrForm, startPlace(c))
			if c != ')' {
				checkWrong(t, "a b (x"+s+"x)\r\n", api.ErrForm, 6)
			}
		}
	}
}

// startPlace is where a command is wrong that ends behind a byte at 4 that begins an Arg, or may not.
func startPlace(c byte) int {
	if c == '(' || c == '"' {
		return 5
	}
	return 4
}

// TestParseArgs: none, one of each kind, some (7.2).
func TestParseArgs(t *testing.T) {
	checkCommand(t, "a b\r\n", api.Command{Tag: "a", Name: "B"})
	checkArgs(t, `c`, atom("c"))
	checkArgs(t, `"c"`, text("c"))
	checkArgs(t, "{1}\r\nc", text("c"))
	checkArgs(t, `(c)`, list(atom("c")))
	checkArgs(t, `()`, list())
	checkArgs(t, `c D 1`, atom("c"), atom("D"), atom("1"))
	checkArgs(t, `c "D e" {2}`+"\r\n()"+` (f "g") ()`, atom("c"), text("D e"), text("()"), list(atom("f"), text("g")), list())
	checkArgs(t, `("a") x`, list(text("a")), atom("x"))
	checkArgs(t, "{1}\r\na {0}\r\n {2}\r\n\r\n", text("a"), text(""), text("\r\n"))
	checkArgs(t, `\Seen BODY[] 1:* }`, atom(`\Seen`), atom("BODY[]"), atom("1:*"), atom("}"))
	// Args with no blank between
	for _, s := range []string{`"c"|"d"`, `"c"|d`, `c|"d"`, `"c"|(d)`, `(c)|"d"`, `(c)|(d)`, `()|()`, `(c)|d`, `c|(d)`, "c|{1}\r\nd", "{1}\r\nc|d", "{1}\r\nc|\"d\"", "{1}\r\nc|(d)", "{1}\r\nc|{1}\r\nd", "(c)|{1}\r\nd", "\"c\"|{1}\r\nd"} {
		checkForm(t, "a b "+s+"\r\n")
		checkForm(t, "a b x "+s+" y\r\n")
		checkForm(t, "a b ("+s+")\r\n")
		checkForm(t, "a b (x "+s+" y)\r\n")
	}
}

// TestParseQuoted: a String in ", with \ ahead of " and \ (7.2).
func TestParseQuoted(t *testing.T) {
	for s, want := range map[string]string{
		`""`: "", `"c"`: "c", `"c d"`: "c d", `" "`: " ", `"  c  "`: "  c  ", `"(){}"`: "(){}", `"{3}"`: "{3}", `")"`: ")", `"C"`: "C",
		`"\\"`: `\`, `"\""`: `"`, `"\\\\"`: `\\`, `"\\\""`: `\"`, `"\"\\"`: `"\`, `"c\"d"`: `c"d`, `"\"c\\d\""`: `"c\d"`, `"\\n"`: `\n`,
		"\"\t\x01\x1f\x7f\x80\xff\u00e9\"": "\t\x01\x1f\x7f\x80\xff\u00e9", `"` + x(5000) + `"`: x(5000),
	} {
		checkArgs(t, s, text(want))
		checkArgs(t, s+" "+s, text(want), text(want))
		checkArgs(t, "("+s+" ("+s+"))", list(text(want), list(text(want))))
	}
	for i := range 256 {
		c := string([]byte{byte(i)})
		// behind a \ two bytes may stand, and nothing else
		if c == `"` || c == `\` {
			checkArgs(t, `"x\`+c+`y"`, text("x"+c+"y"))
		} else {
			checkWrong(t, `a b "x\`+c+`y"`+"\r\n", api.ErrForm, 7)
			checkWrong(t, `a b ("x\`+c+`")`+"\r\n", api.ErrForm, 8)
			checkWrong(t, `a b "\`+c+"\r\n", api.ErrForm, 6)
		}
		switch c {
		case "\r", "\n", "\x00":
			checkWrong(t, `a b "x`+c+`y"`+"\r\n", api.ErrForm, 6)
			checkWrong(t, `a b "`+c+`"`+"\r\n", api.ErrForm, 5)
		case `"`, `\`:
		default:
			checkArgs(t, `"x`+c+`y"`, text("x"+c+"y"))
			checkArgs(t, `"`+c+`"`, text(c))
		}
	}
	for _, s := range []string{
		// without its end
		"a b \"|\r\n", "a b \"c|\r\n", "a b \"c d |\r\n", "a b \"c\\\"|\r\n", "a b \"c\\\\\\\"|\r\n", "a b (\"c)|\r\n", "a b \"c\" \"|\r\n", "a b \"c\\\\|\r\n",
		// in the end of which a \ stands
		"a b \"\\|\r\n", "a b \"c\\|\r\n", "a b \"\\\\\\|\r\n",
		// over lines
		"a b \"c|\r\nd\"\r\n", "a b \"c|\rd\"\r\n", "a b \"c|\nd\"\r\n", "a b \"{1}|\r\nd\"\r\n",
		// the first one
		"a b \"\\|n\x00\"\r\n", "a b \"|\x00\\n\"\r\n", "a b \"\\|\x00\"\r\n", "a b c|\"\x00\r\n",
	} {
		checkForm(t, s)
	}
}

// TestParseCounted: a String as {N}, CR LF, and N bytes (7.2).
func TestParseCounted(t *testing.T) {
	for s, want := range map[string]string{
		"{0}\r\n": "", "{1}\r\nc": "c", "{3}\r\nc d": "c d", "{2}\r\n\r\n": "\r\n", "{4}\r\n\r\n\r\n": "\r\n\r\n", "{2}\r\n\"\\": "\"\\", "{4}\r\n()  ": "()  ", "{5}\r\n{3}\r\n": "{3}\r\n", "{3}\r\n\x00\xff\n": "\x00\xff\n", "{10}\r\n0123456789": "0123456789", "{5000}\r\n" + x(5000): x(5000), "{1}\r\n\r": "\r", "{1}\r\n\n": "\n", "{1}\r\n ": " ",
	} {
		checkArgs(t, s, text(want))
		checkArgs(t, s+" "+s+" x", text(want), text(want), atom("x"))
		checkArgs(t, "("+s+")", list(text(want)))
		checkArgs(t, "("+s+" ("+s+" x) "+s+")", list(text(want), list(text(want), atom("x")), text(want)))
	}
	for _, s := range []string{
		// too few bytes
		"a b |{1}\r\n", "a b |{3}\r\n\r\n", "a b |{5}\r\nab\r\n", "a b |{6}\r\nab\r\n", "a b |{2147483648}\r\nab\r\n", "a b (|{9}\r\nab)\r\n", "a b c |{9}\r\n{1}\r\n", "a b {1}\r\n_ |{9}\r\n_\r\n",
		// they reach into the last CR LF
		"a b {1}\r\n\r|\n", "a b {2}\r\n\r\n|", "a b {3}\r\nab\r|\n", "a b {4}\r\nab\r\n|", "a b ({3}\r\nab\r|\n", "a b ({4}\r\na)\r\n|", "a b {0}\r\n|", "a b ({0}\r\n|", "a b c {0}\r\n|", "a b {1}\r\n_ {3}\r\nab\r|\n", "a b {5}\r\n{1}\r\n|",
		// one byte fewer is right, but for a List's end
		"a b ({2}\r\nab|\r\n", "a b ({0}\r\n|\r\n",
		// more bytes than told
		"a b {1}\r\na|b\r\n", "a b {0}\r\n|a\r\n", "a b {1}\r\na|\r\n\r\n", "a b {0}\r\n|\r\n\r\n", "a b {2}\r\nab|\r\n c\r\n", "a b {1}\r\na|\r\nb c\r\n", "a b {1}\r\na |\r\n", "a b {1}\r\na|(\r\n",
		// no CR LF behind }
		"a b |{1}\r\r\n", "a b |{1}a\r\n", "a b |{1}\na\r\n", "a b |{1}\ra\r\n", "a b |{1}\n\ra\r\n", "a b |{1} \r\na\r\n", "a b |{1}}\r\na\r\n", "a b |{1} c\r\n", "a b |{0}a\r\n", "a b (|{0})\r\n", "a b |{0}\\r\\n\r\n", "a b |{1}\"\r\na\r\n", "a b |{1}a}\r\nab\r\n",
		// no }, or two {
		"a b |{\r\n", "a b |{1\r\n", "a b |{1\r\na\r\n", "a b |{1 }\r\na\r\n", "a b |{{1}\r\na\r\n", "a b |{1{1}\r\na\r\n", "a b |{1\r\n}\r\na\r\n", "a b |{1)\r\na\r\n", "a b |{a} {1}\r\na\r\n", "a b |{ {1}\r\na\r\n", "a b |{}{1}\r\na\r\n", "a b c|{1}\r\na\r\n",
	} {
		checkForm(t, s)
	}
	for _, c := range numbers {
		n, err := strconv.Atoi(c.text)
		if c.is && err == nil && n < 1000 {
			checkArgs(t, "{"+c.text+"}\r\n"+x(n), text(x(n)))
			continue
		}
		for _, behind := range []string{"", "x", x(11), x(1000)} {
			checkWrong(t, "a b {"+c.text+"}\r\n"+behind+"\r\n", api.ErrForm, 4)
			checkWrong(t, "a b c ({"+c.text+"}\r\n"+behind+")\r\n", api.ErrForm, 7)
		}
	}
}

// TestParseLists: Lists, empty, in one another, and wrong (7.2).
func TestParseLists(t *testing.T) {
	c, d := atom("c"), atom("d")
	checkArgs(t, `() ()`, list(), list())
	checkArgs(t, `(())`, list(list()))
	checkArgs(t, `(() ())`, list(list(), list()))
	checkArgs(t, `(c d)`, list(c, d))
	checkArgs(t, `(c) d`, list(c), d)
	checkArgs(t, `c (d)`, c, list(d))
	checkArgs(t, `((c) d)`, list(list(c), d))
	checkArgs(t, `(c (d))`, list(c, list(d)))
	checkArgs(t, `((c d) (d (c ())) c) d`, list(list(c, d), list(d, list(c, list())), c), d)
	checkArgs(t, `("c" "d e" "")`, list(text("c"), text("d e"), text("")))
	for _, s := range []string{
		// without their end
		`(|`, `(c|`, `(c d|`, `(c |`, `((c)|`, `(()|`, `(c (d)|`, `("c"|`, `() (|`, `(c) (d|`,
		// with a ) too many
		`|)`, `()|)`, `(c)|)`, `c|)`, `c |)`, `((c))|)`, `(c) |)`, `"c"|)`, `(c (d))|)`,
		// with a blank behind ( or ahead of )
		`(| )`, `(| c)`, `(c |)`, `(c d |)`, `(|  )`, `((| c))`, `((c |))`, `((c) |)`, `(() |)`, `(| ())`,
		// with two blanks, or another byte between
		`(c | d)`, `((c) | (d))`, "(c|\td)", "(c|\r\nd)", "(|\r\n)", "(|\tc)", "(c|\x00)", "(c|\nd)",
	} {
		checkForm(t, "a b "+s+"\r\n")
		checkForm(t, "a b x "+s+"\r\n")
	}
}

// limitIf is ErrLimit, if that is too much, else another one.
func limitIf(beyond bool, other api.Errno) api.Errno {
	if beyond {
		return api.ErrLimit
	}
	return other
}

// TestParseMany: MaxArgs Args, and one more, those in Lists counted, whatever stands there (7.2).
func TestParseMany(t *testing.T) {
	const most = api.MaxArgs
	checkCommand(t, "a b"+strings.Repeat(" x", most)+"\r\n", api.Command{Tag: "a", Name: "B", Args: slices.Repeat([]api.Arg{atom("x")}, most)})
	checkCommand(t, "a b"+strings.Repeat(" ()", most)+"\r\n", api.Command{Tag: "a", Name: "B", Args: slices.Repeat([]api.Arg{list()}, most)})
	checkArgs(t, "("+strings.Repeat(" x", most-1)[1:]+")", list(slices.Repeat([]api.Arg{atom("x")}, most-1)...))
	checkWrong(t, "a b ("+strings.Repeat(" x", most)[1:]+")\r\n", api.ErrLimit, len("a b (")+2*(most-1))
	// so many ahead, and something behind them: how many more Args it has, if it is right; where it is wrong, by itself
	for _, c := range []struct {
		s     string
		begin []int // where each Arg of it begins
		e     api.Errno
		place int
	}{
		{`x`, []int{0}, api.OK, 0},
		{`"x y"`, []int{0}, api.OK, 0},
		{"{3}\r\n(x ", []int{0}, api.OK, 0},
		{`()`, []int{0}, api.OK, 0},
		{`(x)`, []int{0, 1}, api.OK, 0},
		{`(x y)`, []int{0, 1, 3}, api.OK, 0},
		{`(() ((x)) y) z`, []int{0, 1, 4, 5, 6, 10, 13}, api.OK, 0},
		{`x "y" z`, []int{0, 2, 6}, api.OK, 0},
		// nothing, and what may not stand there
		{``, []int{0}, api.ErrForm, 0},
		{` x`, []int{0}, api.ErrForm, 0},
		{`)`, []int{0}, api.ErrForm, 0},
		{"\x00", []int{0}, api.ErrForm, 0},
		{"\r\nx", []int{0}, api.ErrForm, 0},
		{`{x}`, []int{0}, api.ErrForm, 0},
		{"{99}\r\n", []int{0}, api.ErrForm, 0},
		{`x `, []int{0, 2}, api.ErrForm, 2},
		{`x  y`, []int{0, 2}, api.ErrForm, 2},
		{`x )`, []int{0, 2}, api.ErrForm, 2},
		{`x)`, []int{0}, api.ErrForm, 1},
		{`"x`, []int{0}, api.ErrForm, 2},
		{`"\n"`, []int{0}, api.ErrForm, 2},
		{`(`, []int{0, 1}, api.ErrForm, 1},
		{`( )`, []int{0, 1}, api.ErrForm, 1},
		{`(x`, []int{0, 1}, api.ErrForm, 2},
		{`(x )`, []int{0, 1, 3}, api.ErrForm, 3},
		{`(x y`, []int{0, 1, 3}, api.ErrForm, 4},
		{`(x ("`, []int{0, 1, 3, 4}, api.ErrForm, 5},
		{`x y z"`, []int{0, 2, 4}, api.ErrForm, 5},
	} {
		for ahead := most - 9; ahead <= most+1; ahead++ {
			e, place := c.e, c.place
			for i := len(c.begin) - 1; i >= 0; i-- {
				if ahead+i >= most {
					e, place = api.ErrLimit, c.begin[i]
				}
			}
			for _, a := range []string{"a b" + strings.Repeat(" x", ahead) + " ", "a b" + strings.Repeat(" ()", ahead) + " ", "a b (" + strings.Repeat(" x", ahead-1)[1:] + ") "} {
				if ahead > most {
					// the last one of those ahead is one too many
					checkWrong(t, a+c.s+"\r\n", api.ErrLimit, strings.LastIndexAny(a, "x("))
				} else if e == api.OK {
					checkRight(t, a+c.s+"\r\n")
				} else {
					checkWrong(t, a+c.s+"\r\n", e, len(a)+place)
				}
			}
		}
	}
}

// checkRight looks for no error.
func checkRight(t *testing.T, s string) {
	t.Helper()
	if _, e, place := parse(t, s); e != api.OK {
		t.Errorf("Parse(%s) tells %v at %d", brief(s), e, place)
	}
}

// TestParseDepth: MaxDepth Lists in one another, and one more, whatever stands there (7.2).
func TestParseDepth(t *testing.T) {
	const most = api.MaxDepth
	for many := range 4 * most {
		open, shut := strings.Repeat("(", many), strings.Repeat(")", many)
		for _, ahead := range []string{"a b ", "a b () ", "a b ((((((x)))))) ", "a b \"((((((((\" "} {
			for s, e := range map[string]api.Errno{"x": api.OK, "x y": api.OK, `"x"`: api.OK, "{1}\r\nx": api.OK, " ": api.ErrForm, "{x": api.ErrForm, "\x00": api.ErrForm, "\r\n": api.ErrForm} {
				whole := ahead + open + s + shut + "\r\n"
				switch {
				case many > most:
					checkWrong(t, whole, api.ErrLimit, len(ahead)+most+1)
				case e == api.OK:
					checkRight(t, whole)
				default:
					checkWrong(t, whole, e, len(ahead)+many)
				}
			}
			// where an Arg would begin, but the command ends, or something is wrong
			checkWrong(t, ahead+open+"\r\n", limitIf(many > most, api.ErrForm), len(ahead)+min(many, most+1))
			// an empty List in so many: no Arg would begin in it
			if many <= most {
				checkRight(t, ahead+open+"()"+shut+"\r\n")
				checkRight(t, ahead+open+"() ()"+shut+" x\r\n")
			} else {
				checkWrong(t, ahead+open+"()"+shut+"\r\n", api.ErrLimit, len(ahead)+most+1)
			}
		}
	}
	// the depth is of those in which an Arg lies, not of those beside it
	deep := "((((((x))))))"
	checkRight(t, "a b "+deep+" "+deep+" "+deep+"\r\n")
	checkRight(t, "a b (x (x (x (x (x (x))))) (((((x))))))\r\n")
	checkWrong(t, "a b "+deep+" (((((( ((((((\r\n", api.ErrForm, len("a b "+deep+" (((((("))
	// an Arg behind an empty List that lies as deep as may be
	checkWrong(t, "a b ((((((() (x)))))))\r\n", api.ErrLimit, len("a b ((((((() ("))
}

// TestParseFirst: of several errors the one that stands first (7.2, P3).
func TestParseFirst(t *testing.T) {
	wide := strings.Repeat(" x", api.MaxArgs)
	for _, s := range []string{
		// ahead of what would be too much
		"a b |) x" + wide + "\r\n", "a | b" + wide + wide + "\r\n", "|(" + wide + wide + "\r\n", "a b c|\x00" + wide + wide + "\r\n", "a b |{9999}\r\n" + wide + wide + "\r\n", "a b \"|\x00\"" + wide + wide + "\r\n", "a b x|) ((((((((((\r\n", "a b | (((((((((((\r\n", "a b (|  (((((((((((\r\n",
		// ahead of others
		"|( b )\r\n", "a |( )\r\n", "a b (| \x00)\r\n", "a b {1}\r\nx|{1}\r\n", "a b |{1\x00\r\n", "a b \"\\|x\r\n", "a b x|\"\r\n", "a b () |) \"\r\n",
	} {
		checkForm(t, s)
	}
	// what would be too much is told ahead of what stands there, and behind
	for _, s := range []string{"x", "", " ", ")", "\x00", "\"", "{", "(", "{9}\r\n", "x)", "(((((((((x", "x" + wide, "\r\n"} {
		checkWrong(t, "a b"+wide+" "+s+"\r\n", api.ErrLimit, len("a b"+wide+" "))
		checkWrong(t, "a b ("+wide[1:len(wide)-2]+" "+s+"\r\n", api.ErrLimit, len("a b ("+wide[1:len(wide)-2]+" "))
		if s != ")" {
			checkWrong(t, "a b"+wide[2:]+" ("+s+"\r\n", api.ErrLimit, len("a b"+wide[2:]+" ("))
			checkWrong(t, "a b ((((((("+s+"\r\n", api.ErrLimit, len("a b ((((((("))
		}
	}
	// a List that ends at once has no Arg that would begin
	checkRight(t, "a b"+wide[2:]+" ()\r\n")
	checkWrong(t, "a b"+wide[2:]+" ()x\r\n", api.ErrForm, len("a b"+wide[2:]+" ()"))
	checkWrong(t, "a b"+wide[2:]+" () \r\n", api.ErrLimit, len("a b"+wide[2:]+" () "))
}

// What stands at the beginning of a text: a WORD, a String in " (and as far as one goes), and {N}.
var (
	wordAhead   = regexp.MustCompile("^[!#-'*-z|-~]+")
	quotedAhead = regexp.MustCompile(`^"((?:[^"\\\r\n\x00]|\\["\\])*)"`)
	brokenAhead = regexp.MustCompile(`^"(?:[^"\\\r\n\x00]|\\["\\])*\\?`)
	numberAhead = regexp.MustCompile(`^\{(0|[1-9][0-9]{0,8})\}\r\n`)
	escaped     = regexp.MustCompile(`\\(["\\])`)
)

// second reads a command without going into itself, as the chapter's words go.
func second(s string) (c api.Command, e api.Errno, place int) {
	if !strings.HasSuffix(s, "\r\n") {
		return c, api.ErrForm, 0
	}
	at := 0
	for i := range 2 {
		word := wordAhead.FindString(s[at:])
		if word == "" {
			return api.Command{}, api.ErrForm, at
		}
		at += len(word)
		if i == 0 {
			c.Tag = word
			if s[at] != ' ' {
				return api.Command{}, api.ErrForm, at
			}
			at++
		} else {
			c.Name = strings.ToUpper(word)
		}
	}
	args, e, at := secondArgs(s, at)
	if e != api.OK {
		return api.Command{}, e, at
	}
	c.Args = args
	return c, api.OK, 0
}

// secondArgs reads the Args of a command that stand from a place on, and says where they are wrong.
func secondArgs(s string, at int) ([]api.Arg, api.Errno, int) {
	open := [][]api.Arg{nil} // the lists in which the place is
	count := 0
	shut := func() {
		inner := open[len(open)-1]
		open = open[:len(open)-1]
		open[len(open)-1] = append(open[len(open)-1], list(inner...))
		at++
	}
	begins := false
	for {
		if !begins {
			switch {
			case at == len(s)-2 && len(open) == 1:
				return open[0], api.OK, 0
			case at < len(s) && s[at] == ' ':
				at++
				begins = true
			case at < len(s) && s[at] == ')' && len(open) > 1:
				shut()
			default:
				return nil, api.ErrForm, at
			}
			continue
		}
		if count++; count > 60 || len(open) > 7 {
			return nil, api.ErrLimit, at
		}
		rest := s[at:]
		if rest[0] == '(' {
			open = append(open, nil)
			at++
			if s[at] == ')' {
				shut()
				begins = false
			}
			continue
		}
		a, bytes, wrong := secondArg(rest)
		at += bytes
		if wrong {
			return nil, api.ErrForm, at
		}
		open[len(open)-1] = append(open[len(open)-1], a)
		begins = false
	}
}

// secondArg reads an Arg that is no List: how many bytes it has, or after how many it is wrong.
func secondArg(rest string) (a api.Arg, bytes int, wrong bool) {
	if word := wordAhead.FindString(rest); word != "" {
		return atom(word), len(word), false
	}
	if m := quotedAhead.FindStringSubmatch(rest); m != nil {
		return text(escaped.ReplaceAllString(m[1], "$1")), len(m[0]), false
	}
	if m := brokenAhead.FindString(rest); m != "" {
		return a, len(m), true
	}
	if m := numberAhead.FindStringSubmatch(rest); m != nil {
		if n, _ := strconv.Atoi(m[1]); len(m[0])+n <= len(rest) {
			return text(rest[len(m[0]) : len(m[0])+n]), len(m[0]) + n, false
		}
	}
	return a, 0, true
}

// checkSecond holds Parse against the second reading, and, if there is a command, Print and Next against what was read.
func checkSecond(t *testing.T, s string) api.Errno {
	t.Helper()
	c, e, place := second(s)
	if e != api.OK {
		checkWrong(t, s, e, place)
		return e
	}
	checkCommand(t, s, c)
	checkRound(t, c)
	if n, _, e := next(t, s); len(s) <= api.MaxLine && (n != len(s) || e != api.OK) {
		t.Errorf("Next(%s) = %d, %v", brief(s), n, e)
	}
	return api.OK
}

// checkRound looks whether what is printed is read as it was, and cut off just so (7.1, 7.2, 7.3).
func checkRound(t *testing.T, c api.Command) {
	t.Helper()
	s := Print(c)
	checkCommand(t, s, c)
	if got, _ := Parse(s); Print(got) != s {
		t.Errorf("%s is printed as %s", brief(s), brief(Print(got)))
	}
	want, e := len(s), api.OK
	if len(s) > api.MaxLine {
		want, e = 0, api.ErrLimit
	}
	for _, more := range []string{"", "a {1}\r\n", "\r\n", ")"} {
		if n, _, err := Next(s + more); n != want || api.Tell(err) != e {
			t.Errorf("Next(%s) = %d, %v", brief(s+more), n, err)
		}
	}
}

// TestParseSecond: all short texts of the bytes that matter, and of pieces that are Args.
func TestParseSecond(t *testing.T) {
	look := func(s string) {
		checkSecond(t, s)
		checkSecond(t, s+"\r\n")
		checkSecond(t, "a b "+s+"\r\n")
		checkSecond(t, "a b ("+s+")\r\n")
	}
	grow([]string{"a", " ", "(", ")", "\"", "\\", "{", "\r", "\n", "\x00"}, 4, look)
	grow([]string{"x", " ", "(", ")", "\"", "\\", "{0}\r\n", "{2}\r\n", "{2", "\r\n"}, 4, look)
	grow([]string{" ", "()", "(", ")", `"a\"b"`, "{1}\r\n)"}, 6, look)
	grow([]string{" x", " (", ")", "{1}\r\n "}, 8, func(s string) { checkSecond(t, "a b"+s+"\r\n") })
}

// drawnArg is an Arg as it comes, written in one of the ways in which it may be.
func drawnArg(r *rand.Rand, deep int) string {
	if deep > 0 && r.Intn(2) == 0 {
		var l []string
		for range r.Intn(5) {
			l = append(l, drawnArg(r, deep-1))
		}
		return "(" + strings.Join(l, " ") + ")"
	}
	word := []string{"x", "Y1", `\Seen`, "BODY[1]", "2:*,7", "}", "~!", "'"}
	said := []string{"", "a", "a b", `\`, `"`, "()", "{1}", "\r\n", "\x00\xff", "\u00e9 x", " ", `a\"b`}
	switch s := said[r.Intn(len(said))]; r.Intn(4) {
	case 0:
		return "{" + strconv.Itoa(len(s)) + "}\r\n" + s
	case 1:
		if !strings.ContainsAny(s, "\r\n\x00") {
			return `"` + escaped.ReplaceAllString(strings.NewReplacer(`\`, `\\`, `"`, `\"`).Replace(s), `\$1`) + `"`
		}
	}
	return word[r.Intn(len(word))]
}

// drawnCommand is one as it comes, of which most are right.
func drawnCommand(r *rand.Rand) string {
	s := []string{"a", "A7", "*"}[r.Intn(3)] + " " + []string{"noop", "X", "Uid"}[r.Intn(3)]
	for range r.Intn(9) {
		s += " " + drawnArg(r, r.Intn(9))
	}
	b := []byte(s + "\r\n")
	if r.Intn(3) == 0 {
		const of = "(){}\" \\1\r\nx\x00\xff"
		for range 1 + r.Intn(2) {
			b[r.Intn(len(b))] = of[r.Intn(len(of))]
		}
	}
	return string(b)
}

// TestParseDrawn: drawn commands, right and wrong.
func TestParseDrawn(t *testing.T) {
	r := rand.New(rand.NewSource(77))
	told := map[api.Errno]int{}
	for range 40_000 {
		told[checkSecond(t, drawnCommand(r))]++
	}
	if told[api.OK] < 1000 || told[api.ErrForm] < 1000 || told[api.ErrLimit] < 1000 {
		t.Errorf("of some there are too few: %v", told)
	}
}

func FuzzParse(f *testing.F) {
	for _, s := range []string{"a1 x {3}\r\na\"b (x \"y \\\\ z\" () (1 2)) w\r\n", "a NOOP\r\n", "a b {5}\r\nhello {0}\r\n\r\n", "a b (((((((x)))))))\r\n", "a b" + strings.Repeat(" x", 61) + "\r\n", "a b {2}\r\n\r\n", "a {2990}\r\n"} {
		f.Add(s)
	}
	f.Fuzz(func(t *testing.T, s string) {
		checkSecond(t, s)
		checkSecond(t, "a b "+s+"\r\n")
		checkSecondNext(t, s)
		checkQuote(t, s)
	})
}

// checkQuote holds what Quote tells against the chapter's words, and looks whether it is read as it was.
func checkQuote(t *testing.T, s string) {
	t.Helper()
	q := Quote(s)
	strange := regexp.MustCompile(`[^\x20-\x7e]`).MatchString(s)
	var want string
	switch {
	case strange:
		want = fmt.Sprintf("{%d}\r\n%s", len(s), s)
	case regexp.MustCompile(`^[!-~]+$`).MatchString(s) && !strings.ContainsAny(s, "(){\"\\"):
		want = s
	default:
		want = `"` + regexp.MustCompile(`["\\]`).ReplaceAllString(s, `\$0`) + `"`
	}
	if q != want {
		t.Errorf("Quote(%s) = %s, not %s", brief(s), brief(q), brief(want))
	}
	c, e, place := parse(t, "a b "+q+" ("+q+")\r\n")
	kind := api.String
	if q == s {
		kind = api.Atom
	}
	a := api.Arg{Kind: kind, Text: s}
	if e != api.OK || !same(c, api.Command{Tag: "a", Name: "B", Args: []api.Arg{a, list(a)}}) {
		t.Errorf("Quote(%s) = %s is read as %v, %v at %d", brief(s), brief(q), c, e, place)
	}
}

// TestQuote: as it is, in ", or as {N} (7.3).
func TestQuote(t *testing.T) {
	for s, want := range map[string]string{
		"": `""`, "a": "a", "Abc": "Abc", "1:*": "1:*", "a}": "a}", "[]%*~!'": "[]%*~!'", "}": "}", "&AOk-": "&AOk-",
		`\`: `"\\"`, `\Seen`: `"\\Seen"`, `a\`: `"a\\"`, `\\`: `"\\\\"`, `"`: `"\""`, `a"b`: `"a\"b"`, `""`: `"\"\""`, `\"`: `"\\\""`, `"\`: `"\"\\"`,
		" ": `" "`, "a b": `"a b"`, " a": `" a"`, "a ": `"a "`, "(": `"("`, ")": `")"`, "{": `"{"`, "a(b)": `"a(b)"`, "{3}": `"{3}"`, "(a \\ \"b\")": `"(a \\ \"b\")"`,
		"\x00": "{1}\r\n\x00", "\x1f": "{1}\r\n\x1f", "\x7f": "{1}\r\n\x7f", "\x80": "{1}\r\n\x80", "\xff": "{1}\r\n\xff", "\t": "{1}\r\n\t", "\r\n": "{2}\r\n\r\n", "a\nb": "{3}\r\na\nb", "\u00e9": "{2}\r\n\u00e9", "a b\\\"\x01": "{6}\r\na b\\\"\x01", "\U0001f600x": "{5}\r\n\U0001f600x",
		"0123456789\n": "{11}\r\n0123456789\n", "~ ": `"~ "`,
	} {
		if got := Quote(s); got != want {
			t.Errorf("Quote(%q) = %q, not %q", s, got, want)
		}
		checkQuote(t, s)
	}
	for i := range 256 {
		c := string([]byte{byte(i)})
		for _, s := range []string{c, "x" + c, c + "x", "x" + c + "y", c + c, c + " ", c + "\\", "\"" + c} {
			checkQuote(t, s)
		}
	}
	grow([]string{"a", " ", "\"", "\\", "{", "\r", "\n", "\xff"}, 4, func(s string) { checkQuote(t, s) })
	for _, n := range []int{9, 10, 99, 100, 999, 1000, 100_000} {
		checkQuote(t, x(n))
		checkQuote(t, x(n-1)+" ")
		checkQuote(t, strings.Repeat("\x01", n))
	}
}

// TestPrint: Tag, Name, Args, with blanks between, CR LF (7.3).
func TestPrint(t *testing.T) {
	for s, args := range map[string][]api.Arg{
		"":                                nil,
		" x":                              {atom("x")},
		` \Seen`:                          {atom(`\Seen`)},
		" x Y }":                          {atom("x"), atom("Y"), atom("}")},
		` "x"`:                            {text("x")},
		` ""`:                             {text("")},
		` "\\Seen"`:                       {text(`\Seen`)},
		` "x y" "\""`:                     {text("x y"), text(`"`)},
		` "{3}"`:                          {text("{3}")},
		` "}"`:                            {text("}")},
		" {2}\r\n\r\n":                    {text("\r\n")},
		" {1}\r\n\xff x":                  {text("\xff"), atom("x")},
		" ()":                             {list()},
		" () ()":                          {list(), list()},
		" (())":                           {list(list())},
		" (() x ())":                      {list(list(), atom("x"), list())},
		` (x "x" (y) {2}` + "\r\n\r\n) z": {list(atom("x"), text("x"), list(atom("y")), text("\r\n")), atom("z")},
		" ((((((()))))))":                 {list(list(list(list(list(list(list()))))))},
		" (x (x (x)))":                    {list(atom("x"), list(atom("x"), list(atom("x"))))},
	} {
		c := api.Command{Tag: "a7", Name: "NOOP", Args: args}
		if got, want := Print(c), "a7 NOOP"+s+"\r\n"; got != want {
			t.Errorf("Print(%v) = %q, not %q", c, got, want)
		}
		checkRound(t, c)
	}
	// what was read is printed as it stood there, if it stood there so
	for _, s := range []string{"a NOOP\r\n", "b LOGIN me \"letter\"\r\n", "a1 X {3}\r\na\xffb (x \"y \\\\ z\" () (1 2)) w\r\n", `\ } \ "\\"` + "\r\n"} {
		if c, _, _ := parse(t, s); Print(c) != s {
			t.Errorf("%q is printed as %q", s, Print(c))
		}
	}
	// else otherwise
	for s, want := range map[string]string{"a noop\r\n": "a NOOP\r\n", "a b {1}\r\nx\r\n": "a B \"x\"\r\n", "a b {0}\r\n\r\n": "a B \"\"\r\n", "a b {3}\r\na\"b\r\n": "a B \"a\\\"b\"\r\n", "a b \"\xff\"\r\n": "a B {1}\r\n\xff\r\n", "a b \"\t\"\r\n": "a B {1}\r\n\t\r\n"} {
		if c, _, _ := parse(t, s); Print(c) != want {
			t.Errorf("%q is printed as %q, not %q", s, Print(c), want)
		}
	}
	full := api.Command{Tag: "a", Name: "B", Args: slices.Repeat([]api.Arg{text("x")}, api.MaxArgs)}
	checkRound(t, full)
	// so many bytes as a command may have, and more
	for n := api.MaxLine - 12; n <= api.MaxLine+2; n++ {
		checkRound(t, api.Command{Tag: "a", Name: "B", Args: []api.Arg{atom(x(n))}})
		checkRound(t, api.Command{Tag: "a", Name: "B", Args: []api.Arg{text(x(n))}})
	}
	for n := api.MaxLine - 20; n <= api.MaxLine-14; n++ {
		checkRound(t, api.Command{Tag: "a", Name: "B", Args: []api.Arg{text(strings.Repeat("\n", n))}})
	}
}

// TestPrintWrong: what Parse tells of nothing is printed without harm (P1, P2).
func TestPrintWrong(t *testing.T) {
	for want, c := range map[string]api.Command{
		" \r\n":   {},
		"a \r\n":  {Tag: "a"},
		" b\r\n":  {Name: "b"},
		"a b\r\n": {Tag: "a", Name: "b", Args: []api.Arg{}},
		// a Kind that is none says nothing
		"a b \r\n":    {Tag: "a", Name: "b", Args: []api.Arg{{}}},
		"a b  \r\n":   {Tag: "a", Name: "b", Args: []api.Arg{{Kind: -1, Text: "x"}, {Kind: 4, List: []api.Arg{atom("x")}}}},
		"a b ( )\r\n": {Tag: "a", Name: "b", Args: []api.Arg{list(api.Arg{Kind: 9, Text: "x"}, api.Arg{})}},
		// a Text of a List, a List of a Text
		"a b () x \"y\"\r\n": {Tag: "a", Name: "b", Args: []api.Arg{{Kind: api.List, Text: "x"}, {Kind: api.Atom, Text: "x", List: []api.Arg{atom("z")}}, {Kind: api.String, Text: "y", List: []api.Arg{atom("z")}}}},
		"\r\n ( \xff)\r\n":   {Tag: "\r\n", Name: "(", Args: []api.Arg{atom("\xff)")}},
	} {
		if got := Print(c); got != want {
			t.Errorf("Print(%+v) = %q, not %q", c, got, want)
		}
	}
	// a List that lies in itself has no end
	round := []api.Arg{atom("x"), list(), list()}
	round[1].List, round[2].List = round, round
	if got := Print(api.Command{Tag: "a", Name: "B", Args: round}); got != "" {
		t.Errorf("Print of what lies in itself has %d bytes", len(got))
	}
	// one that lies in as many as may be has
	deep := list()
	for range 1<<16 - 1 {
		deep = list(deep)
	}
	if got := Print(api.Command{Args: []api.Arg{deep}}); got != "  "+strings.Repeat("(", 1<<16)+strings.Repeat(")", 1<<16)+"\r\n" {
		t.Errorf("Print of what lies deep has %d bytes", len(got))
	}
}

// TestGreat: great texts are read, and refused, in time (P1).
func TestGreat(t *testing.T) {
	const many = 1 << 22
	begin := time.Now()
	for _, c := range []string{"x", "{", "}", "\r", "\n", "9", "{0}\r\n", "\r\n", "(", "\\\\", "\"", " ", "{1}"} {
		s := strings.Repeat(c, many/len(c))
		for _, s := range []string{s, s + "\r\n", "a {" + s + "}\r\n"} {
			if n, _, e := next(t, s); n > api.MaxLine || e != limitIf(n == 0, api.OK) {
				t.Errorf("Next(%s) = %d, %v", brief(s), n, e)
			}
		}
		for _, s := range []string{s, s + "\r\n", "a b " + s + "\r\n", "a b {" + s + "}\r\n", "a b (" + s + ")\r\n"} {
			parse(t, s)
		}
		checkArgs(t, "{"+strconv.Itoa(len(s))+"}\r\n"+s, text(s))
	}
	whole := "\"" + strings.Repeat(`\\`, many) + "\" {" + strconv.Itoa(many) + "}\r\n" + x(many) + " " + x(many)
	checkArgs(t, whole, text(strings.Repeat(`\`, many)), text(x(many)), atom(x(many)))
	for _, s := range []string{x(many), strings.Repeat(`\`, many), strings.Repeat("\xff", many)} {
		if got := Print(api.Command{Tag: "a", Name: "B", Args: []api.Arg{text(s)}}); len(got) < many {
			t.Errorf("Print of %d bytes has %d", many, len(got))
		}
	}
	if took := time.Since(begin); took > 30*time.Second {
		t.Errorf("great texts took %v", took)
	}
}

// TestShared: no list that is handed in is written into, also behind its length, and no two that are told share memory (P4).
func TestShared(t *testing.T) {
	inner := []api.Arg{atom("x"), text("y"), atom("behind"), list(atom("z"))}
	args := []api.Arg{list(inner[:2]...), atom("w"), {}, text("behind")}
	args[0].List = inner[:2]
	before := fmt.Sprint(inner, args)
	if got := Print(api.Command{Tag: "a", Name: "b", Args: args[:2]}); got != "a b (x \"y\") w\r\n" || fmt.Sprint(inner, args) != before {
		t.Errorf("Print tells %q, and leaves %v, %v", got, inner, args)
	}
	const s = "a b (c (d e) (f) ()) (g) h (i) j\r\n"
	first, _, _ := parse(t, s)
	second, _, _ := parse(t, s)
	scribble(first.Args)
	if third, _, _ := parse(t, s); !same(second, third) {
		t.Errorf("what is told hangs on what was told before: %v, %v", second, third)
	}
	// what is put behind one list is not seen in another one
	before = fmt.Sprint(second)
	_ = append(second.Args[0].List[1].List, atom("!"))
	_ = append(second.Args[0].List, atom("!"))
	_ = append(second.Args[1].List, atom("!"))
	_ = append(second.Args[0].List[3].List, atom("!"))
	if fmt.Sprint(second) != before {
		t.Errorf("two lists share memory: %v, not %v", second, before)
	}
}

// scribble writes into all lists, and behind their length.
func scribble(l []api.Arg) {
	for _, a := range l {
		scribble(a.List)
	}
	l = l[:cap(l)]
	for i := range l {
		l[i] = api.Arg{Kind: 9, Text: "!"}
	}
}

// TestAgain: what a call answers hangs on its arguments alone (P4).
func TestAgain(t *testing.T) {
	for _, s := range []string{"", "a b (\r\n", "a b {1}\r\nx (y)\r\n", x(4000), "a b" + strings.Repeat(" x", 70) + "\r\n"} {
		n, waits, err := Next(s)
		c, wrong := Parse(s)
		for range 3 {
			n2, waits2, err2 := Next(s)
			c2, wrong2 := Parse(s)
			if n2 != n || waits2 != waits || err2 != err || !same(c, c2) || !reflect.DeepEqual(wrong, wrong2) || Quote(s) != Quote(s) || Print(c) != Print(c2) {
				t.Errorf("%s is told otherwise again", brief(s))
			}
		}
	}
}
