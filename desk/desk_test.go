package desk_test

import (
	"fmt"
	"slices"
	"strconv"
	"strings"
	"testing"

	"letterbox/api"
	"letterbox/archive"
	"letterbox/desk"
	"letterbox/house"
)

// run goes through a script: lines `> text` are a session's lines, each with what is told of it in the line behind it. A line with # ahead is a remark. What stands ahead of a script, and is not looked at, may be handed in.
func run(t *testing.T, ahead []string, script string) {
	t.Helper()
	asked, want := append([]string(nil), ahead...), []string(nil)
	for line := range strings.Lines(script) {
		line = strings.TrimSuffix(strings.TrimLeft(line, "\t"), "\n")
		switch {
		case line == "" || line[0] == '#':
		case line[0] == '>':
			asked = append(asked, line[1:])
		default:
			want = append(want, line)
		}
	}
	if len(asked)-len(ahead) != len(want) {
		t.Fatalf("no script: %d lines, %d answers", len(asked)-len(ahead), len(want))
	}
	got := answers(t, asked...)
	for i, w := range want {
		if i := i + len(ahead); got[i] != w {
			t.Errorf("line %d, %.300q\n tells %.900q\n   not %.900q", i, asked[i], got[i], w)
		}
	}
}

// answers are what is told of each of some lines.
func answers(t *testing.T, asked ...string) []string {
	t.Helper()
	text := strings.Join(asked, "\n")
	if len(text) > api.MaxText {
		t.Fatalf("too long a text: %d bytes", len(text))
	}
	// With a line feed at its end, so that a last line that is empty is one.
	told, ok := strings.CutSuffix(desk.Session(text+"\n"), "\n")
	got := strings.Split(told, "\n")
	if !ok || len(got) != len(asked) {
		t.Fatalf("%.300q: %d lines, %d answers", text, len(asked), len(got))
	}
	return got
}

// last is what is told of the last one of some lines.
func last(t *testing.T, asked ...string) string {
	t.Helper()
	got := answers(t, asked...)
	return got[len(got)-1]
}

// tells says that the last one of some lines is answered just so.
func tells(t *testing.T, want string, asked ...string) {
	t.Helper()
	if got := last(t, asked...); got != want {
		t.Errorf("%.300q\n tells %.900q\n   not %.900q", asked[len(asked)-1], got, want)
	}
}

// times are many of one line.
func times(n int, line string) []string {
	var out []string
	for range n {
		out = append(out, line)
	}
	return out
}

// whole says what a text is answered.
func whole(t *testing.T, text, want string) {
	t.Helper()
	if got := desk.Session(text); got != want {
		t.Errorf("%.300q\n tells %.900q\n   not %.900q", text, got, want)
	}
}

// The errors, as they are told.
const (
	argError     = "error 1"
	formError    = "error 3"
	limitError   = "error 4"
	missingError = "error 7"
	fullError    = "error 12"
)

func TestErrorsByNumber(t *testing.T) {
	for told, e := range map[string]api.Errno{argError: api.ErrArg, formError: api.ErrForm, limitError: api.ErrLimit, missingError: api.ErrMissing, fullError: api.ErrFull} {
		if told != "error "+strconv.Itoa(int(e)) {
			t.Errorf("%s is not %d", told, e)
		}
	}
}

func TestTooLongText(t *testing.T) {
	if api.MaxText != 20_000 {
		t.Fatalf("MaxText is %d", api.MaxText)
	}
	x := strings.Repeat("x", api.MaxText)
	whole(t, x, "error 3\n")
	whole(t, x+"x", "error 4\n")
	whole(t, x+"\n", "error 4\n")
	whole(t, x[1:]+"\n", "error 3\n")
	whole(t, strings.Repeat(" ", api.MaxText), "ok\n")
	whole(t, strings.Repeat(" ", api.MaxText+1), "error 4\n")
	whole(t, strings.Repeat("\n", api.MaxText), strings.Repeat("ok\n", api.MaxText))
	whole(t, strings.Repeat("\n", api.MaxText+1), "error 4\n")
	// Nothing of a text that is too long is answered.
	whole(t, "open\n"+x, "error 4\n")
	// Bytes count, not runes.
	whole(t, strings.Repeat("é", api.MaxText/2), "error 3\n")
	whole(t, strings.Repeat("é", api.MaxText/2)+"x", "error 4\n")
	text := strings.Repeat("y", api.MaxText-len("text "))
	whole(t, "text "+text, `"`+text+"\"\n")
}

func TestLines(t *testing.T) {
	for text, want := range map[string]string{
		"":               "ok\n",
		"\n":             "ok\n",
		"\n\n":           "ok\nok\n",
		"\n\n\n":         "ok\nok\nok\n",
		"open":           "open 0\n",
		"open\n":         "open 0\n",
		"open\n\n":       "open 0\nok\n",
		"\nopen":         "ok\nopen 0\n",
		"\nopen\n":       "ok\nopen 0\n",
		"open\nopen":     "open 0\nopen 1\n",
		"open\n\nopen\n": "open 0\nok\nopen 1\n",
		"open\n \n":      "open 0\nok\n",
		" ":              "ok\n",
		" \n":            "ok\n",
		" \n ":           "ok\nok\n",
		"   \n":          "ok\n",
		// A CR is no end of a line.
		"open\r\n":       "error 3\n",
		"open\r\nopen":   "error 3\nopen 0\n",
		"open\ropen":     "error 3\n",
		"\r":             "error 3\n",
		"text a\r\n":     "\"a%0d\"\n",
		"text\n\ntext a": "\"\"\nok\n\"a\"\n",
	} {
		whole(t, text, want)
	}
}

func TestBlanks(t *testing.T) {
	for line, want := range map[string]string{
		"":                         "ok",
		" ":                        "ok",
		"     ":                    "ok",
		" open":                    "open 0",
		"open ":                    "open 0",
		"   open   ":               "open 0",
		"has 1:3 2 9":              "true",
		"  has   1:3  2    9 ":     "true",
		"text a b":                 `"a%20b"`,
		"text a  b":                `"a%20b"`,
		"   text    a    b   c   ": `"a%20b%20c"`,
		"text    ":                 `""`,
		"encode a   b ":            "encode a b",
		"decode  a   b ":           `decode "a%20b"`,
		// Nothing but a blank is one.
		"\t":                            formError,
		"open\t":                        formError,
		"\topen":                        formError,
		"open\u00a0":                    formError,
		"open\u2003":                    formError,
		"open\v":                        formError,
		"open\f":                        formError,
		"open\x00":                      formError,
		"open\u0085":                    formError,
		"has\t1:3\t2\t9":                formError,
		"text a\tb":                     `"a%09b"`,
		"text \t":                       `"%09"`,
		"text a\u00a0b":                 `"a%c2%a0b"`,
		"text \xff\xfe a \xc3 \xe2\x80": `"%ff%fe%20a%20%c3%20%e2%80"`,
		"text \u3000 \ufffd":            `"%e3%80%80%20%ef%bf%bd"`,
	} {
		tells(t, want, line)
	}
}

func TestFirstWordIsNone(t *testing.T) {
	for _, line := range []string{
		"x", "Open", "OPEN", "ope", "openn", "open0", "ok", "error", "error 3", "opens", "o", "close", "login", "0", "-", "help?", "?", "feed0", "lines", "name", "encoded", "sets", "part", "kept", "restored", "texts", "|", "%", `""`, "é", "\xff", "open,", "open|", "|open", "o pen", "full", "read", "diff", "apply", "save", "all",
	} {
		tells(t, formError, line)
		tells(t, formError, line+" 0")
		tells(t, formError, " "+line+" 0 0 0 ")
	}
}

// Each line as it may be: a new session, and a house that is kept, are there.
var proper = []struct {
	line string
	any  bool // any words may stand behind it
	want string
}{
	{"open", false, "open 1"},
	{"feed 0", true, `feed ""`},
	{"line 0", true, `line "*%20BAD%203%0d%0a"`},
	{"names", false, "names INBOX"},
	{"encode a", true, "encode a"},
	{"decode a", true, `decode "a"`},
	{"set 1", false, "1"},
	{"has 1 1 1", false, "true"},
	{"parts", true, `("text/plain" 0 0)`},
	{"keep", false, "keep 1 20"},
	{"same 0", false, "22 true"},
	{"restore 0", false, "restore"},
	{"text", true, `""`},
	{"help", false, "decode encode feed has help keep line names open parts restore same set text"},
}

func TestHowManyWords(t *testing.T) {
	for _, p := range proper {
		tells(t, p.want, "open", "keep", p.line)
		got := last(t, "open", "keep", p.line+" x")
		if (got != formError) != p.any {
			t.Errorf("%q and a word more: %q", p.line, got)
		}
		if got := last(t, "open", "keep", p.line+" 1 2"); (got != formError) != p.any {
			t.Errorf("%q and two words more: %q", p.line, got)
		}
		words := strings.Fields(p.line)
		for n := 1; n < len(words) && words[0] != "encode" && words[0] != "decode"; n++ {
			tells(t, formError, "open", "keep", strings.Join(words[:n], " "))
		}
	}
	if len(proper) != 14 {
		t.Errorf("%d lines", len(proper))
	}
}

// Lines of a wrong form: whatever else might be wrong, that is told, and nothing is changed.
var improper = []string{
	"open x", "open 0", "open  0 ", "names INBOX", "keep 0", "keep x y", "help open", "help help",
	"feed", "feed x", "feed x y", "feed 0x", "line", "line x", "line  a NOOP",
	"set", "set 1 2", "set 0 0", "set 1: 2", "set 1 ,2",
	"has", "has 1", "has 1 1", "has 1 1 1 1", "has 0", "has 0 1", "has x 1 1 1",
	"same", "same x", "same 0 x", "same 9 x", "same 0 0", "same -1 0",
	"restore", "restore x", "restore 0 x", "restore 9 9", "restore 0 0",
}

func TestFormIsToldFirst(t *testing.T) {
	full := append(times(8, "open"), times(8, "keep")...)
	for _, line := range improper {
		tells(t, formError, line)
		tells(t, formError, append(full[:len(full):len(full)], line)...)
	}
}

func TestErrorsChangeNothing(t *testing.T) {
	wrong := append([]string{
		"feed 1 a LOGIN me letter|", "line 1 a LOGIN me letter", "feed -1 x|", "same 1", "restore 1", "same -1", "restore -1", "decode &", "encode", "encode \x01", "set 0", "has 0 1 1", "x",
	}, improper...)
	for _, line := range wrong {
		got := answers(t, "open", "feed 0 a LOG", "keep", line, "feed 0 IN me letter|", "line 0 b CREATE a", "open", "keep", "names", "same 0", "same 1")
		want := []string{"open 0", `feed ""`, "keep 0 20", got[3], `feed "a%20OK%0d%0a"`, `line "b%20OK%0d%0a"`, "open 1", "keep 1 29", "names INBOX a", "33 true", "33 true"}
		if !strings.HasPrefix(got[3], "error ") {
			t.Errorf("%q: %q", line, got[3])
		}
		for i, w := range want {
			if got[i] != w {
				t.Errorf("%q, line %d: %q, not %q", line, i, got[i], w)
			}
		}
	}
}

var noNumbers = []string{
	"00", "01", "007", "-0", "-00", "-01", "+0", "+1", "-", "+", "--1", "-+1", "1-", "1.0", "1.", ".1", "1e3", "0x1", "0b1", "0o7", "1_0", "1,0", "1:1", "*", "x", "1x", "x1", "9223372036854775808", "9223372036854775809", "18446744073709551615", "18446744073709551616", "-9223372036854775809", "-9223372036854775810", "99999999999999999999999999", "-99999999999999999999999999", "1\t", "\t1", "1\r", "1\x00", "\uff11", "\u0661", "1\u00a0", "\xff", "|", "%31", "\"1\"", "'1'", "(1)", "1;",
}

var numbers = []string{
	"0", "1", "7", "10", "100", "-1", "-10", "2147483647", "2147483648", "-2147483648", "4294967296", "9223372036854775806", "9223372036854775807", "-9223372036854775807", "-9223372036854775808", "1000000000000000000", "-1000000000000000000",
}

func TestNumbers(t *testing.T) {
	for _, n := range noNumbers {
		for _, line := range []string{"feed N", "feed N a", "line N", "line N a", "same N", "restore N", "has * N 1", "has * 1 N", "has * N N"} {
			tells(t, formError, "open", "keep", strings.ReplaceAll(line, "N", n))
		}
	}
	for _, n := range numbers {
		tells(t, "true", "has * "+n+" "+n)
		tells(t, strconv.FormatBool(n == "1"), "has 1 "+n+" 5")
		tells(t, strconv.FormatBool(n == "5"), "has * 5 "+n)
		there := n == "0" || n == "1"
		for _, line := range []string{"feed N", "feed N a", "line N", "line N a b", "same N", "restore N"} {
			got := last(t, "open", "open", "keep", "keep", strings.ReplaceAll(line, "N", n))
			if (got == missingError) == there || got == formError {
				t.Errorf("%s of %s: %q", line, n, got)
			}
		}
	}
	tells(t, "true", "has *:1 9223372036854775806 9223372036854775807")
	tells(t, "false", "has 1:* -9223372036854775808 9223372036854775807")
	tells(t, "true", "has 1:* -9223372036854775808 -9223372036854775808")
}

func TestOpen(t *testing.T) {
	run(t, nil, `
		>feed 0 x
		error 7
		>open
		open 0
		>feed 1 x
		error 7
		>open
		open 1
		>open
		open 2
		>open
		open 3
		>open
		open 4
		>open
		open 5
		>open
		open 6
		>feed 7
		error 7
		>open
		open 7
		>feed 7
		feed ""
		>open
		error 12
		>open
		error 12
		>feed 8 x
		error 7
		>line 8
		error 7
		# One that is over is a session yet.
		>line 3 a LOGOUT
		line "*%20BYE%0d%0aa%20OK%0d%0a"
		>open
		error 12
		>line 7 a NOOP
		line "a%20OK%0d%0a"
	`)
}

func TestNoSuchSession(t *testing.T) {
	for _, n := range []string{"0", "1", "-1", "8", "9223372036854775807", "-9223372036854775808"} {
		for _, line := range []string{"feed N", "line N", "feed N a NOOP|", "line N a NOOP"} {
			tells(t, missingError, strings.ReplaceAll(line, "N", n))
			if n != "0" {
				tells(t, missingError, "open", strings.ReplaceAll(line, "N", n))
			}
		}
	}
}

func TestSessionIsOver(t *testing.T) {
	run(t, []string{"open", "open", "line 0 a LOGOUT"}, `
		>feed 0
		feed ""
		>feed 0 a NOOP|
		feed ""
		>line 0
		line ""
		>line 0 a NOOP
		line ""
		>line 0 a LOGIN me letter
		line ""
		>line 1 a NOOP
		line "a%20OK%0d%0a"
	`)
	run(t, []string{"open"}, `
		>feed 0 a NOOP|b LOGOUT|c NOOP|
		feed "a%20OK%0d%0a*%20BYE%0d%0ab%20OK%0d%0a"
		>feed 0 d NOOP|
		feed ""
	`)
	tells(t, `line "*%20BYE%20too%20long%0d%0a"`, "open", "line 0 "+strings.Repeat("x", api.MaxLine-1))
	tells(t, `line "*%20BAD%203%0d%0a"`, "open", "line 0 "+strings.Repeat("x", api.MaxLine-2))
}

func TestFeedAndLine(t *testing.T) {
	run(t, nil, `
		>open
		open 0
		>line 0 a login me letter
		line "a%20OK%0d%0a"
		>open
		open 1
		>line 1 a login me letters
		line "a%20NO%2013%0d%0a"
		# Pieces of a command, and several in one.
		>feed 0 b NO
		feed ""
		>feed 0 OP
		feed ""
		>feed 0 |
		feed "b%20OK%0d%0a"
		>feed 0 c NOOP|d NOOP|e NO
		feed "c%20OK%0d%0ad%20OK%0d%0a"
		>line 0 OP
		line "e%20OK%0d%0a"
		>line 0 f NOOP|g NOOP
		line "f%20OK%0d%0ag%20OK%0d%0a"
		>feed 0
		feed ""
		>line 0
		line "*%20BAD%203%0d%0a"
		>feed 0 |
		feed "*%20BAD%203%0d%0a"
		>line 0 ||
		line "*%20BAD%203%0d%0a*%20BAD%203%0d%0a*%20BAD%203%0d%0a"
		# Blanks at the ends of what is fed are none of it.
		>feed 0 h 
		feed ""
		>feed 0  NOOP|
		feed "*%20BAD%203%0d%0a"
		# Bytes that are waited for.
		>line 0 i APPEND inbox {6}
		line "+%20go%0d%0a"
		>line 0 a|b%"
		line "*%20OK%20[APPENDUID%201%201]%0d%0ai%20OK%0d%0a"
		>line 0 j SELECT inbox
		line "*%201%20EXISTS%0d%0a*%20OK%20[UIDVALIDITY%201]%0d%0a*%20OK%20[UIDNEXT%202]%0d%0aj%20OK%0d%0a"
		>line 0 k FETCH 1 BODY.PEEK[]
		line "*%201%20FETCH%20(BODY[]%20{6}%0d%0aa%0d%0ab%25")%0d%0ak%20OK%0d%0a"
		# Both sessions are in one house.
		>line 1 k LOGIN you letter
		line "k%20OK%0d%0a"
		>line 1 l STATUS INBOX (MESSAGES)
		line "*%20STATUS%20INBOX%20(MESSAGES%201)%0d%0al%20OK%0d%0a"
		>line 1 m APPEND inbox x
		line "*%20OK%20[APPENDUID%201%202]%0d%0am%20OK%0d%0a"
		>line 0 n NOOP
		line "*%202%20EXISTS%0d%0an%20OK%0d%0a"
	`)
}

func TestNames(t *testing.T) {
	run(t, []string{"open", "line 0 a LOGIN me letter"}, `
		>names
		names INBOX
		>line 0 a CREATE b/c
		line "a%20OK%0d%0a"
		>line 0 a CREATE a
		line "a%20OK%0d%0a"
		>line 0 a CREATE inbox/x
		line "a%20OK%0d%0a"
		>names
		names INBOX INBOX/x a b b/c
		# As they are: neither SHOWN nor encoded.
		>line 0 a CREATE "%&- c"
		line "a%20NO%201%0d%0a"
		>line 0 a CREATE "&- c"
		line "a%20OK%0d%0a"
		>line 0 a CREATE &AOk-
		line "a%20OK%0d%0a"
		>names
		names & c INBOX INBOX/x a b b/c é
		>line 0 a DELETE b/c
		line "a%20OK%0d%0a"
		>line 0 a RENAME b z
		line "a%20OK%0d%0a"
		>names
		names & c INBOX INBOX/x a z é
	`)
}

func TestEncodeDecode(t *testing.T) {
	run(t, nil, `
		>encode a&b
		encode a&-b
		>encode a&é
		encode a&-&AOk-
		>encode é ü
		encode &AOk- &APw-
		# Neither are BYTES: | is a letter, and Encode's answer is not SHOWN.
		>encode a|b%c"d
		encode a|b%c"d
		>encode
		error 1
		>decode a&-&AOk-
		decode "a&%c3%a9"
		>decode &AOk- &APw-
		decode "%c3%a9%20%c3%bc"
		>decode a|b%c"d
		decode "a|b%25c"d"
		>decode &
		error 3
		>decode &AOk
		error 3
		>decode é
		error 3
		>decode
		error 3
	`)
	long := strings.Repeat("a", api.MaxName)
	tells(t, "encode "+long, "encode "+long)
	tells(t, argError, "encode "+long+"a")
	tells(t, `decode "`+long+`"`, "decode "+long)
	tells(t, formError, "decode "+long+"a")
	tells(t, argError, "encode a\tb")
	tells(t, argError, "encode \x7f")
	tells(t, argError, "encode \xff")
}

func TestSet(t *testing.T) {
	run(t, nil, `
		>set 1:2,*
		1:2,*
		>set 7
		7
		>set 7:7,3:1,*:*,*:4
		7,3:1,*,*:4
		>set 2147483647
		2147483647
		>set 2147483648
		error 3
		>set 0
		error 3
		>set 1,
		error 3
		>set x
		error 3
		>set |
		error 3
	`)
	many := strings.Repeat("1,", api.MaxRanges-1) + "1"
	tells(t, many, "set "+many)
	tells(t, limitError, "set "+many+",1")
	tells(t, limitError, "set "+many+",1,x")
	tells(t, formError, "set "+many+",x")
}

func TestHas(t *testing.T) {
	run(t, nil, `
		>has 1:3 2 9
		true
		>has 1:3 4 9
		false
		>has 2:3,7:* 8 9
		true
		>has 2:3,7:* 10 9
		false
		>has * 4 4
		true
		>has * 4 5
		false
		>has * 5 4
		false
		>has 3:1 1 0
		true
		>has * -4 -4
		true
		>has x 1 1
		error 3
		>has 1 x 1
		error 3
		>has 1 1 x
		error 3
		>has 0 1 1
		error 3
	`)
	many := strings.Repeat("1,", api.MaxRanges-1) + "1"
	tells(t, "true", "has "+many+" 1 1")
	// Both numbers are looked at ahead of the set.
	tells(t, limitError, "has "+many+",1 1 1")
	tells(t, formError, "has "+many+",1 x 1")
	tells(t, formError, "has "+many+",1 1 x")
	tells(t, formError, "has "+many+",1 01 1")
	tells(t, formError, "has "+many+",1 1 9223372036854775808")
}

func TestParts(t *testing.T) {
	run(t, nil, `
		>parts
		("text/plain" 0 0)
		>parts |a|b|
		("text/plain" 2 6)
		>parts Content-Type: TEXT/Html||a b
		("text/html" 0 3)
		>parts Content-Type: multipart/x; boundary=b||--b||x|--b--|
		(("text/plain" 0 1) "multipart/x")
		>parts   Content-Type:   multipart/x;   boundary=b||--b||x  y|--b|--b--
		(("text/plain" 0 3) ("text/plain" 0 0) "multipart/x")
	`)
	// As many parts as may be (the whole one is one of them), and one more.
	top := "parts Content-Type: multipart/x; boundary=b||"
	most := strings.Repeat("--b|", api.MaxParts-1)
	if got := last(t, top+most); strings.Count(got, "text/plain") != api.MaxParts-1 {
		t.Errorf("so many parts as may be: %q", got)
	}
	tells(t, limitError, top+most+"--b|")
	deep := func(n int) string {
		line := "parts "
		for i := range n {
			line += fmt.Sprintf("Content-Type: multipart/x; boundary=b%d||--b%d|", i, i)
		}
		return line
	}
	if got := last(t, deep(api.MaxDepth)); strings.Count(got, "multipart/x") != api.MaxDepth {
		t.Errorf("so many in one another as may be: %q", got)
	}
	tells(t, limitError, deep(api.MaxDepth+1))
}

// byteShown is how a byte is SHOWN, by a way of its own.
func byteShown(b byte) string {
	if b <= 32 || b >= 127 || b == '%' {
		return fmt.Sprintf("%%%02x", b)
	}
	return string([]byte{b})
}

func TestShown(t *testing.T) {
	for i := range 256 {
		b := byte(i)
		switch b {
		case '\n', ' ':
		case '|':
			tells(t, `"%0d%0a"`, "text |")
			tells(t, `decode "|"`, "decode |")
		default:
			tells(t, `"`+byteShown(b)+`"`, "text "+string([]byte{b}))
			tells(t, `"a`+byteShown(b)+`b%20c`+byteShown(b)+`"`, "text a"+string([]byte{b})+"b c"+string([]byte{b}))
		}
	}
	run(t, nil, `
		>text a b
		"a%20b"
		>text a|b%
		"a%0d%0ab%25"
		>text ||
		"%0d%0a%0d%0a"
		>text | |
		"%0d%0a%20%0d%0a"
		>text "
		"""
		>text %25
		"%2525"
		>text ~!
		"~!"
		>text é
		"%c3%a9"
		>text
		""
		>text text
		"text"
	`)
	// Any byte that a letter has is SHOWN in what Feed tells.
	var letter, want string
	for i := range 256 {
		if b := byte(i); b != '\n' && b != ' ' && b != '|' {
			letter += string([]byte{b})
			want += byteShown(b)
		}
	}
	tells(t, fmt.Sprintf(`line "*%%201%%20FETCH%%20(BODY[]%%20{%d}%%0d%%0a%s)%%0d%%0ac%%20OK%%0d%%0a"`, len(letter), want),
		"open", "line 0 a LOGIN me letter", fmt.Sprintf("line 0 a APPEND inbox {%d}|%s", len(letter), letter), "line 0 b SELECT inbox", "line 0 c FETCH 1 BODY.PEEK[]")
}

func TestHelp(t *testing.T) {
	tells(t, "decode encode feed has help keep line names open parts restore same set text", "help")
	tells(t, "decode encode feed has help keep line names open parts restore same set text", "open", "keep", "restore 0", " help  ")
	for _, w := range strings.Fields(last(t, "help")) {
		got := answers(t, w, w+" 0", w+" *", w+" * 1 1")
		if !slices.ContainsFunc(got, func(s string) bool { return s != formError }) {
			t.Errorf("%s is no word", w)
		}
	}
}

func TestKeep(t *testing.T) {
	run(t, nil, `
		>same 0
		error 7
		>restore 0
		error 7
		>keep
		keep 0 20
		>keep
		keep 1 20
		>open
		open 0
		>line 0 a LOGIN me letter
		line "a%20OK%0d%0a"
		>line 0 a CREATE a
		line "a%20OK%0d%0a"
		>keep
		keep 2 29
		>keep
		keep 3 29
		>keep
		keep 4 29
		>keep
		keep 5 29
		>keep
		keep 6 29
		>same 7
		error 7
		>keep
		keep 7 29
		>keep
		error 12
		>same 7
		33 true
		>keep
		error 12
		>same 8
		error 7
		>restore 8
		error 7
		# What is KEPT stays so.
		>restore 0
		restore
		>keep
		error 12
		>names
		names INBOX
		>restore 7
		restore
		>names
		names INBOX a
	`)
}

func TestKeptMissing(t *testing.T) {
	for _, n := range []string{"0", "1", "-1", "8", "9223372036854775807", "-9223372036854775808"} {
		for _, w := range []string{"same ", "restore "} {
			tells(t, missingError, w+n)
			tells(t, missingError, "open", "open", w+n)
			if n != "0" {
				tells(t, missingError, "keep", w+n)
			}
		}
	}
}

// change makes changes in a house, one by one: the same by the house's own methods, and by lines of session 0.
var change = []struct {
	line string
	do   func(h *house.House) error
}{
	{"CREATE a/b", func(h *house.House) error { return h.Create("a/b") }},
	{"APPEND inbox (\\Seen) 7 hello", func(h *house.House) error { return add(h, "INBOX", 7, "hello", `\Seen`) }},
	{"APPEND a/b world", func(h *house.House) error { return add(h, "a/b", 0, "world") }},
	{"SUBSCRIBE x", func(h *house.House) error { return h.Want("x", true) }},
	{"RENAME a c", func(h *house.House) error { return h.Rename("a", "c") }},
	{"RENAME inbox d", func(h *house.House) error { return h.Rename("inbox", "d") }},
	{"UNSUBSCRIBE x", func(h *house.House) error { return h.Want("x", false) }},
	{"DELETE d", func(h *house.House) error { return h.Delete("d") }},
}

func add(h *house.House, name string, day int, text string, flags ...string) error {
	b, err := h.Get(name)
	if err == nil {
		_, err = b.Append(flags, day, text)
	}
	return err
}

func TestSameBehindChanges(t *testing.T) {
	h := house.New()
	saved := []house.Saved{h.Save()}
	lines := []string{"open", "line 0 a LOGIN me letter", "keep"}
	for i, c := range change[:7] {
		if err := c.do(h); err != nil {
			t.Fatalf("%s: %v", c.line, err)
		}
		saved = append(saved, h.Save())
		full, err := archive.Full(h.Save())
		if err != nil {
			t.Fatal(err)
		}
		lines = append(lines, "line 0 a "+c.line)
		if got := last(t, lines...); !strings.HasSuffix(got, `a%20OK%0d%0a"`) {
			t.Errorf("%s: %q", c.line, got)
		}
		lines = append(lines, "keep")
		tells(t, fmt.Sprintf("keep %d %d", i+1, len(full)), lines...)
		for j, s := range saved {
			d, err := archive.Diff(s, h.Save())
			if err != nil {
				t.Fatal(err)
			}
			tells(t, fmt.Sprintf("%d true", len(d)), append(lines[:len(lines):len(lines)], fmt.Sprintf("same %d", j))...)
		}
	}
}

func TestSame(t *testing.T) {
	run(t, nil, `
		>keep
		keep 0 20
		>same 0
		22 true
		>open
		open 0
		>same 0
		22 true
		>line 0 a LOGIN me letter
		line "a%20OK%0d%0a"
		# D2;0;1;5:INBOX1;2;0;1;1;0;0;5:hello
		>line 0 a APPEND inbox hello
		line "*%20OK%20[APPENDUID%201%201]%0d%0aa%20OK%0d%0a"
		>same 0
		35 true
		>keep
		keep 1 33
		# D2;0;1;5:INBOX1;2;1;1;0;
		>same 1
		24 true
		>same 0
		35 true
		>restore 0
		restore
		>same 0
		22 true
		# Back to a house that has less: D2;0;1;5:INBOX1;1;0;0;
		>same 1
		22 true
	`)
}

func TestRestore(t *testing.T) {
	run(t, []string{"open", "open", "line 0 a LOGIN me letter", "line 0 a APPEND inbox one", "line 0 a SELECT inbox", "feed 1 a LOG"}, `
		>keep
		keep 0 31
		>line 0 a STORE 1 +FLAGS \Deleted
		line "*%201%20FETCH%20(FLAGS%20(\Deleted))%0d%0aa%20OK%0d%0a"
		>line 0 a EXPUNGE
		line "*%201%20EXPUNGE%0d%0aa%20OK%0d%0a"
		>line 0 a CREATE b
		line "a%20OK%0d%0a"
		>line 0 a SUBSCRIBE w
		line "a%20OK%0d%0a"
		>keep
		keep 1 32
		>restore 0
		restore
		# There are no sessions, not even those that were there.
		>feed 0
		error 7
		>line 0 a NOOP
		error 7
		>feed 1 IN me letter|
		error 7
		>names
		names INBOX
		>same 0
		24 true
		# New ones begin from 0 on, and know nothing.
		>open
		open 0
		>line 0 a SELECT inbox
		line "a%20NO%206%0d%0a"
		>line 1 a NOOP
		error 7
		>line 0 a LOGIN me letter
		line "a%20OK%0d%0a"
		# The letter lives again.
		>line 0 a SELECT inbox
		line "*%201%20EXISTS%0d%0a*%20OK%20[UIDVALIDITY%201]%0d%0a*%20OK%20[UIDNEXT%202]%0d%0aa%20OK%0d%0a"
		>line 0 a FETCH 1 (FLAGS BODY.PEEK[])
		line "*%201%20FETCH%20(FLAGS%20()%20BODY[]%20{3}%0d%0aone)%0d%0aa%20OK%0d%0a"
		>line 0 a LSUB "" *
		line "a%20OK%0d%0a"
		# What is done in it is not done in what is KEPT.
		>line 0 a STORE 1 FLAGS work
		line "*%201%20FETCH%20(FLAGS%20(work))%0d%0aa%20OK%0d%0a"
		>line 0 a CREATE c
		line "a%20OK%0d%0a"
		>restore 0
		restore
		>names
		names INBOX
		>same 0
		24 true
		>restore 1
		restore
		>open
		open 0
		>names
		names INBOX b
		>line 0 a LOGIN me letter
		line "a%20OK%0d%0a"
		>line 0 a LSUB "" *
		line "*%20LSUB%20()%20"/"%20w%0d%0aa%20OK%0d%0a"
		>line 0 a STATUS inbox (MESSAGES UIDNEXT)
		line "*%20STATUS%20inbox%20(MESSAGES%200%20UIDNEXT%202)%0d%0aa%20OK%0d%0a"
	`)
	// As many as may be are open: behind it there is room again.
	lines := append(times(8, "open"), "keep", "open", "restore 0")
	got := answers(t, append(append(lines, times(8, "open")...), "open")...)
	want := strings.Fields("open_0 open_1 open_2 open_3 open_4 open_5 open_6 open_7 keep_0_20 error_12 restore open_0 open_1 open_2 open_3 open_4 open_5 open_6 open_7 error_12")
	for i, w := range want {
		if got[i] != strings.ReplaceAll(w, "_", " ") {
			t.Errorf("line %d: %q, not %q", i, got[i], w)
		}
	}
}

// Each text has a house of its own, whatever was asked before.
func TestHousesOfTheirOwn(t *testing.T) {
	text := "names\nopen\nline 0 a LOGIN me letter\nline 0 a CREATE b\nkeep\nnames\nsame 0"
	want := "names INBOX\nopen 0\nline \"a%20OK%0d%0a\"\nline \"a%20OK%0d%0a\"\nkeep 0 29\nnames INBOX b\n33 true\n"
	for range 3 {
		whole(t, text, want)
		whole(t, "names\nfeed 0\nsame 0", "names INBOX\nerror 7\nerror 7\n")
	}
}

// The example of DOC.md.
func TestExample(t *testing.T) {
	tells(t, `line "a%20OK%0d%0a"`, "open", "line 0 a login me letter")
	tells(t, "encode a&-&AOk-", "encode a&\u00e9")
	tells(t, "true", "has 2:3,7:* 9 9")
	tells(t, fmt.Sprint("keep 0 ", len("F2;0;1;5:INBOX1;1;0;")), "keep")
}
