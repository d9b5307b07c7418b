package mime

import (
	"errors"
	"math/rand"
	"reflect"
	"strconv"
	"strings"
	"testing"
	"time"

	"letterbox/api"
	"letterbox/head"
)

// mixed begins a message of parts with a boundary b.
const mixed = "Content-Type: multipart/mixed; boundary=b\r\n\r\n"

// plain is a part without Parts.
func plain(from, to, lines int) api.Part {
	return api.Part{Type: "text/plain", From: from, To: to, Lines: lines}
}

// parse is Parse of what is no error; what is one must be told plainly, and beside nothing.
func parse(t *testing.T, s string) (api.Part, api.Errno) {
	t.Helper()
	p, err := Parse(s)
	var a *api.At
	if errors.As(err, &a) {
		t.Errorf("Parse(%.300q) tells an At", s)
	}
	if err != nil && !reflect.DeepEqual(p, api.Part{}) {
		t.Errorf("Parse(%.300q) = %v beside an error", s, p)
	}
	return p, api.Tell(err)
}

// check holds what Parse tells against what is wanted.
func check(t *testing.T, s string, want api.Part) {
	t.Helper()
	if p, e := parse(t, s); e != api.OK || !reflect.DeepEqual(p, want) {
		t.Errorf("Parse(%.300q) = %+v, %v, not %+v", s, p, e, want)
	}
}

// checkLimit wants ErrLimit, or none.
func checkLimit(t *testing.T, s string, beyond bool) {
	t.Helper()
	want := api.OK
	if beyond {
		want = api.ErrLimit
	}
	if _, e := parse(t, s); e != want {
		t.Errorf("Parse(%.300q) tells %v, not %v", s, e, want)
	}
}

// texts are the bodies of a part's Parts (of their own Parts: in brackets), each in strokes.
func texts(s string, l []api.Part) string {
	out := ""
	for _, p := range l {
		out += "|" + s[p.From:p.To]
		if p.Boundary != "" {
			out += "[" + texts(s, p.Parts) + "]"
		}
	}
	return out + "|"
}

// checkParts holds the bodies of a message's parts against what is wanted.
func checkParts(t *testing.T, s, want string) {
	t.Helper()
	p, e := parse(t, s)
	if e != api.OK || p.Boundary == "" {
		t.Errorf("Parse(%.300q) = %+v, %v: no parts", s, p, e)
	} else if got := texts(s, p.Parts); got != want {
		t.Errorf("Parse(%.300q) has parts %q, not %q", s, got, want)
	}
}

// TestAlone: From, To and Lines of what has no parts (5.1).
func TestAlone(t *testing.T) {
	for _, c := range []struct {
		s               string
		from, to, lines int
	}{
		{"", 0, 0, 0},
		{"\r\n", 2, 2, 0},
		{"\r\nbody", 2, 6, 0},
		{"A: b\r\n\r\nbody", 8, 12, 0},
		{"A: b\r\n\r\nbody\r\n", 8, 14, 1},
		{"A: b\r\n\r\nHello\r\nWorld\r\n", 8, 22, 2},
		{"A: b\r\n\r\n", 8, 8, 0},
		{"A: b\r\n\r\n\r\n\r\n", 8, 12, 2},
		// no empty LINE: all is head
		{"body", 4, 4, 0},
		{"A: b\r\n", 6, 6, 0},
		{"A: b\r\nC: d", 10, 10, 0},
		{"A: b\n\nbody\n", 11, 11, 0},
		// each LF counts, a CR alone does not, nor what stands in the head
		{"\r\na\nb\n\nc", 2, 8, 3},
		{"\r\n\n", 2, 3, 1},
		{"\r\n\r", 2, 3, 0},
		{"\r\na\r\r\nb\r", 2, 8, 1},
		{"A: b\r\n c\r\n d\r\n\r\n\n", 16, 17, 1},
		// a boundary that nobody tells
		{"\r\n--\r\n\r\nx\r\n----\r\n", 2, 17, 4},
	} {
		check(t, c.s, plain(c.from, c.to, c.lines))
	}
}

// TestType: what content-type says (5.1).
func TestType(t *testing.T) {
	for _, c := range []struct{ top, called, boundary string }{
		{"", "text/plain", ""},
		{"Subject: text/html\r\n", "text/plain", ""},
		{"Content-Typ: text/html\r\nContent-Types: text/html\r\n", "text/plain", ""},
		{"Content-Type: text/html\r\n", "text/html", ""},
		{"content-type:text/html\r\n", "text/html", ""},
		{"CONTENT-TYPE: text/html\r\n", "text/html", ""},
		{"X: y\r\ncOnTeNt-tYpE: text/html\r\n", "text/html", ""},
		{"Content-Type: TEXT/Html\r\n", "text/html", ""},
		{"Content-Type: \u00c9\u212a/A\r\n", "\u00c9\u212a/a", ""},
		// the first of two
		{"Content-Type: a/b\r\nContent-Type: c/d\r\n", "a/b", ""},
		{"Content-Type:\r\nContent-Type: c/d\r\n", "", ""},
		{"content-type: a/b\r\nContent-Type: multipart/x; boundary=b\r\n", "a/b", ""},
		// it says nothing
		{"Content-Type:\r\n", "", ""},
		{"Content-Type: ; boundary=b\r\n", "", ""},
		{"Content-Type: \t;\r\n", "", ""},
		// ahead of the first ;, without blanks and tabs at both ends
		{"Content-Type: a/b; c=d\r\n", "a/b", ""},
		{"Content-Type: a/b;c;d\r\n", "a/b", ""},
		{"Content-Type: \t a/b \t ; c=d\r\n", "a/b", ""},
		{"Content-Type: a b\tc \t;\r\n", "a b\tc", ""},
		{"Content-Type:\r\n a/b\r\n\t; c=d\r\n", "a/b", ""},
		{"Content-Type: \va/b\f;\r\n", "\va/b\f", ""},
		{"Content-Type: \"a/b;c\"\r\n", "\"a/b", ""},
		// Fields tells an error
		{"Content-Type: text/html\r\nno field\r\n", "text/plain", ""},
		{"no field\r\nContent-Type: multipart/x; boundary=b\r\n", "text/plain", ""},
		{" \r\nContent-Type: text/html\r\n", "text/plain", ""},
		{"Content-Type: text/html\n\r\n", "text/plain", ""},
		{"Content-Type: text/html\r\n" + strings.Repeat("A: b\r\n", api.MaxFields), "text/plain", ""},
		{"Content-Type: text/html\r\n" + strings.Repeat("A: b\r\n", api.MaxFields-1), "text/html", ""},
		// the boundary of what has parts
		{"Content-Type: multipart/mixed; boundary=b\r\n", "multipart/mixed", "b"},
		{"Content-Type: MULTIPART/Mixed; BOUNDARY=Bb\r\n", "multipart/mixed", "Bb"},
		{"Content-Type: multipart/; boundary=b\r\n", "multipart/", "b"},
		{"Content-Type: multipart/ x; boundary=b\r\n", "multipart/ x", "b"},
		{"Content-Type: multipart/x; a=c; boundary = b ; boundary=d\r\n", "multipart/x", "b"},
		{"Content-Type: multipart/x\r\n ;boundary\r\n =b\r\n", "multipart/x", "b"},
		{"Content-Type: multipart/x; boundary=\"b c\"\r\n", "multipart/x", "b c"},
		{"Content-Type: multipart/x; boundary=\" b\t\"\r\n", "multipart/x", " b\t"},
		{"Content-Type: multipart/x; boundary=\"\r\n", "multipart/x", "\""},
		{"Content-Type: multipart/x; boundary=b=c\r\n", "multipart/x", "b=c"},
		// none, or an empty one
		{"Content-Type: multipart/x\r\n", "multipart/x", ""},
		{"Content-Type: multipart/x; boundary\r\n", "multipart/x", ""},
		{"Content-Type: multipart/x; boundary=\r\n", "multipart/x", ""},
		{"Content-Type: multipart/x; boundary= \t\r\n", "multipart/x", ""},
		{"Content-Type: multipart/x; boundary=\"\"\r\n", "multipart/x", ""},
		{"Content-Type: multipart/x; boundary=; boundary=b\r\n", "multipart/x", ""},
		{"Content-Type: multipart/x; bound=b\r\nBoundary: b\r\n", "multipart/x", ""},
		{"Content-Type: boundary=b\r\n", "boundary=b", ""},
		// no multipart/ at its beginning
		{"Content-Type: multipart; boundary=b\r\n", "multipart", ""},
		{"Content-Type: xmultipart/x; boundary=b\r\n", "xmultipart/x", ""},
		{"Content-Type: text/multipart/; boundary=b\r\n", "text/multipart/", ""},
		{"Content-Type: multipart\\x; boundary=b\r\n", "multipart\\x", ""},
		{"Content-Type: \"multipart/x\"; boundary=b\r\n", "\"multipart/x\"", ""},
		{"Content-Type: ;multipart/x; boundary=b\r\n", "", ""},
	} {
		const body = "no parts\r\n--\r\n--\"\"\r\n"
		at := len(c.top) + 2
		check(t, c.top+"\r\n"+body, api.Part{Type: c.called, Boundary: c.boundary, From: at, To: at + len(body), Lines: 3})
		if c.boundary == "" { // no line is a MARK
			const body = "--\r\n\r\n--b\r\n----\r\n--b--\r\n"
			check(t, c.top+"\r\n"+body, api.Part{Type: c.called, From: at, To: at + len(body), Lines: 5})
		}
		// without an empty LINE the head says the same
		if all := strings.TrimSuffix(c.top, "\r\n"); all != "" && c.called != "text/plain" {
			check(t, all, api.Part{Type: c.called, Boundary: c.boundary, From: len(all), To: len(all)})
		}
	}
}

// TestParts: where parts begin and end (5.1).
func TestParts(t *testing.T) {
	for _, c := range []struct{ body, want string }{
		// ordinary ones
		{"--b\r\n\r\none\r\n--b\r\n\r\ntwo\r\n--b--\r\n", "|one|two|"},
		{"ahead\r\n--b\r\nX: y\r\n\r\none\r\nmore\r\n--b\r\nContent-Type: text/html\r\n\r\ntwo\r\n--b--\r\nbehind", "|one\r\nmore|two|"},
		// none
		{"", "|"},
		{"\r\n", "|"},
		{"b\r\n-b\r\n---b\r\n", "|"},
		{"--c\r\n\r\none\r\n--c--", "|"},
		{"--B\r\n\r\none\r\n--B--", "|"},
		// a MARK at the body's beginning, and at its end, with and without CR LF
		{"--b\r\n", "||"},
		{"--b", "||"},
		{"--b \t", "||"},
		{"--b\r", "|"},
		{"--b\n", "|"},
		{"\r\n--b", "||"},
		{"x\r\n--b\r\n", "||"},
		{"--b\r\n\r\none\r\n--b", "|one||"},
		{"--b\r\n\r\none\r\n--b\r\n", "|one||"},
		// at once behind another one
		{"--b\r\n--b", "|||"},
		{"--b\r\n--b\r\n", "|||"},
		{"--b\r\n--b\r\n--b\r\n\r\nx", "|||x|"},
		{"--b\r\n--b--", "||"},
		{"--b\r\n\r\n--b--", "||"},
		{"--b\r\n\r\n\r\n--b--", "||"},
		{"--b\r\n\r\n\r\n\r\n--b--", "|\r\n|"},
		// blanks and tabs at its end, and ahead of it, and something else
		{"--b \r\n\r\none\r\n--b\t\r\n\r\ntwo\r\n--b--  \t \r\n--b", "|one|two|"},
		{"--b \t \t \r\n\r\none", "|one|"},
		{"--b\r\n\r\none\r\n --b\r\n\t--b--\r\n", "|one\r\n --b\r\n\t--b--\r\n|"},
		{"--b\r\n\r\none\r\n--b x\r\n--bx\r\n--b-\r\n--b -\r\n--b --\r\n--b---\r\n--b-- x\r\nx--b\r\n--b\v\r\n--b\u00a0", "|one\r\n--b x\r\n--bx\r\n--b-\r\n--b -\r\n--b --\r\n--b---\r\n--b-- x\r\nx--b\r\n--b\v\r\n--b\u00a0|"},
		{"--b\r\n\r\none\r\n-- b\r\n- -b\r\n", "|one\r\n-- b\r\n- -b\r\n|"},
		// an LF or a CR alone is no end of a line
		{"x\n--b\r\n", "|"},
		{"x\r--b\r\n", "|"},
		{"--b\n\r\n\r\none", "|"},
		{"--b\r\r\n\r\none", "|"},
		{"--b\r\n\r\none\n--b\r\ntwo", "|one\n--b\r\ntwo|"},
		{"--b\r\n\r\none\r--b\r\ntwo", "|one\r--b\r\ntwo|"},
		{"--b\r\n\r\none\n\r\n--b--", "|one\n|"},
		{"--b\r\n\r\none\r\r\n--b--", "|one\r|"},
		{"--b\r\n\r\none\n\r--b--", "|one\n\r--b--|"},
		// the LAST one
		{"--b--", "|"},
		{"--b--\r\n--b\r\n\r\none\r\n--b--", "|"},
		{"x\r\n--b--\r\n--b\r\n\r\none", "|"},
		{"--b\r\n\r\none\r\n--b--\r\n--b\r\n\r\ntwo\r\n--b--\r\n--b", "|one|"},
		{"--b\r\n\r\none\r\n--b--\r\n--b--\r\n--b--", "|one|"},
		{"--b\r\n\r\none\r\n--b--", "|one|"},
		{"--b\r\n\r\none\r\n--b\r\n--b--", "|one||"},
		{"--b\r\n\r\none\r\n--b\r\n\r\n\r\n--b--", "|one||"},
		// none at all
		{"--b\r\n\r\none", "|one|"},
		{"--b\r\n\r\none\r\n", "|one\r\n|"},
		{"--b\r\n\r\none\r\n--b\r\n\r\ntwo\r\n\r\n", "|one|two\r\n\r\n|"},
		// parts without a head, without a body, without an empty LINE
		{"--b\r\n\r\n\r\none\r\n--b--", "|\r\none|"},
		{"--b\r\nX: y\r\n\r\n\r\n--b--", "||"},
		{"--b\r\nX: y\r\n\r\n--b--", "||"},
		{"--b\r\nX: y\r\n--b--", "||"},
		{"--b\r\none\r\n--b\r\ntwo\r\nthree\r\n--b--", "|||"},
	} {
		checkParts(t, mixed+c.body, c.want)
	}
}

// TestBoundary: lines of boundaries of all kinds (5.1).
func TestBoundary(t *testing.T) {
	for _, c := range []struct{ said, body, want string }{
		// one that begins another one, and one that ends like the LAST one
		{"b", "--bc\r\n\r\nno\r\n--b\r\n\r\none\r\n--bc--\r\n--b--", "|one\r\n--bc--|"},
		{"bc", "--b\r\n\r\nno\r\n--bc\r\n\r\none\r\n--b--\r\n--bc--", "|one\r\n--b--|"},
		{"b--", "--b--\r\n\r\none\r\n--b\r\n--b----\r\n--b--", "|one\r\n--b|"},
		{"--", "----\r\n\r\none\r\n--\r\n---\r\n-----\r\n------\r\n----", "|one\r\n--\r\n---\r\n-----|"},
		{"-", "---\r\n\r\none\r\n--\r\n----\r\n-----\r\n---", "|one\r\n--\r\n----|"},
		// great letters are others than small ones
		{"Bb", "--bb\r\n--BB\r\n--Bb\r\n\r\none\r\n--bB--\r\n--Bb--", "|one\r\n--bB--|"},
		// with quotes, blanks and other bytes in it
		{"\"b\"", "--\"b\"\r\n--b\r\n\r\none\r\n--b--", "|one|"},
		{"\"b c\"", "--b\r\n--b c\r\n\r\none\r\n--b  c\r\n--b\r\n--b c--", "|one\r\n--b  c\r\n--b|"},
		{"\"\u00e9\xff.*\"", "--\u00e9\xff.*\r\n\r\none\r\n--\u00e9\xff..\r\n--\u00e9\xff.*-- ", "|one\r\n--\u00e9\xff..|"},
		{"\" b\"", "--b\r\n-- b\r\n\r\none\r\n-- b--", "|one|"},
		// a blank at its end: a line without it is no MARK, but may be the LAST one
		{"\"b \"", "--b \r\n\r\none\r\n--b  \r\n--b", "|"},
		{"\" \"", "-- \r\n\r\none\r\n--\r\n", "|"},
		{"\"b\t\"", "--b\t--\r\n--b\t\r\n", "|"},
	} {
		checkParts(t, "Content-Type: multipart/x; boundary="+c.said+"\r\n\r\n"+c.body, c.want)
	}
}

// TestInner: parts in parts, and whose boundary is whose (5.1).
func TestInner(t *testing.T) {
	const inner = "--b\r\nContent-Type: multipart/y; boundary=c\r\n\r\n"
	for _, c := range []struct{ body, want string }{
		{inner + "--c\r\n\r\none\r\n--c\r\n\r\ntwo\r\n--c--\r\n--b\r\n\r\nthree\r\n--b--", "|--c\r\n\r\none\r\n--c\r\n\r\ntwo\r\n--c--[|one|two|]|three|"},
		// the outer boundary within an inner part ends it
		{inner + "--c\r\n\r\none\r\n--b\r\n\r\n--c\r\n\r\ntwo\r\n--c--", "|--c\r\n\r\none[|one|]|--c\r\n\r\ntwo\r\n--c--|"},
		{inner + "--c\r\n--b--\r\n\r\none\r\n--c--", "|--c[||]|"},
		{inner + "--b\r\n--c\r\n", "|[|]||"},
		// the inner one in an outer part is nothing there
		{"--c\r\n--b\r\n\r\none\r\n--c\r\n\r\ntwo\r\n--c--\r\n--b--", "|one\r\n--c\r\n\r\ntwo\r\n--c--|"},
		{inner + "--c\r\n\r\none\r\n--c--\r\n\r\n--b\r\n--c\r\n\r\ntwo", "|--c\r\n\r\none\r\n--c--\r\n[|one|]|two|"},
		// the CR LF ahead of the outer MARK is not the inner part's
		{inner + "--c\r\n\r\none\r\n\r\n--b--", "|--c\r\n\r\none\r\n[|one\r\n|]|"},
		{inner + "--c\r\n\r\none\r\n--b--", "|--c\r\n\r\none[|one|]|"},
		{inner + "--c\r\n\r\none\r\n--c\r\n--b--", "|--c\r\n\r\none\r\n--c[|one||]|"},
		// the same boundary: an inner part has none of it
		{"--b\r\nContent-Type: multipart/y; boundary=b\r\n\r\n--b\r\n\r\none\r\n--b--", "|[|]|one|"},
		// three deep, and one behind
		{inner + "--c\r\nContent-Type: multipart/z; boundary=\"d\"\r\n\r\n--d\r\n\r\nin\r\n--d--\r\n--c--\r\n--b\r\n\r\nout\r\n--b--", "|--c\r\nContent-Type: multipart/z; boundary=\"d\"\r\n\r\n--d\r\n\r\nin\r\n--d--\r\n--c--[|--d\r\n\r\nin\r\n--d--[|in|]|]|out|"},
	} {
		checkParts(t, mixed+c.body, c.want)
	}
}

// TestPlaces: each field of parts in parts, with places in the whole text (5.1).
func TestPlaces(t *testing.T) {
	s := mixed + "--b\r\nX: y\r\n\r\none\r\n\r\n--b\r\nContent-Type: Multipart/Y; boundary=c\r\n\r\nx\r\n--c\r\n\r\na\nb\r\n--c\r\n--c--\r\n--b\r\n"
	at := len(mixed)
	check(t, s, api.Part{Type: "multipart/mixed", Boundary: "b", From: at, To: len(s), Lines: 16, Parts: []api.Part{
		plain(at+13, at+18, 1),
		{Type: "multipart/y", Boundary: "c", From: at + 66, To: at + 91, Lines: 6, Parts: []api.Part{
			plain(at+76, at+79, 1),
			plain(at+86, at+86, 0),
		}},
		plain(len(s), len(s), 0),
	}})
	check(t, mixed+"--b", api.Part{Type: "multipart/mixed", Boundary: "b", From: at, To: at + 3, Parts: []api.Part{plain(at+3, at+3, 0)}})
	check(t, mixed+"--b\r\n--b\r\n--b--\r\n", api.Part{Type: "multipart/mixed", Boundary: "b", From: at, To: at + 17, Lines: 3, Parts: []api.Part{
		plain(at+5, at+5, 0), plain(at+10, at+10, 0),
	}})
	check(t, mixed+"--b\r\nX: y\r\n--b--", api.Part{Type: "multipart/mixed", Boundary: "b", From: at, To: at + 16, Lines: 2, Parts: []api.Part{plain(at+9, at+9, 0)}})
}

// deep is a message of parts, so many in one another, and one in the last.
func deep(many int) string {
	s := ""
	for i := range many {
		b := "b" + strconv.Itoa(i) + "."
		s += "Content-Type: multipart/x; boundary=" + b + "\r\n\r\n--" + b + "\r\n"
	}
	return s
}

// TestLimit: MaxParts and MaxDepth, and one more (5.2).
func TestLimit(t *testing.T) {
	for many := range 3 * api.MaxParts {
		checkLimit(t, mixed+strings.Repeat("--b\r\n", many), many+1 > api.MaxParts)
		checkLimit(t, mixed+strings.Repeat("--b\r\n", many)+"--b--\r\n"+strings.Repeat("--b\r\n", 99), many+1 > api.MaxParts)
		// those of inner parts count, too
		two := mixed + "--b\r\nContent-Type: multipart/y; boundary=c\r\n\r\n" + strings.Repeat("--c\r\n", many) + "\r\n--b\r\n\r\n--b--\r\n"
		checkLimit(t, two, many+3 > api.MaxParts)
		// and those behind a deep one
		checkLimit(t, mixed+"--b\r\n"+deep(api.MaxDepth-1)+"\r\n"+strings.Repeat("--b\r\n", many), 1+api.MaxDepth+many > api.MaxParts)
		// what has no boundary has none
		checkLimit(t, "Content-Type: text/x; boundary=b\r\n\r\n"+strings.Repeat("--b\r\n", many), false)
	}
	for many := range 3 * api.MaxDepth {
		checkLimit(t, deep(many), many > api.MaxDepth)
		checkLimit(t, deep(many)+"\r\nbody", many > api.MaxDepth)
		checkLimit(t, mixed+"--b\r\n\r\none\r\n--b\r\n"+deep(many), many+1 > api.MaxDepth)
		// the last one may have parts, and has none
		checkLimit(t, deep(many)+"Content-Type: multipart/x; boundary=q\r\n\r\nnone", many > api.MaxDepth)
		checkLimit(t, deep(many)+"Content-Type: multipart/x; boundary=q\r\n\r\n--q--", many > api.MaxDepth)
	}
	// the whole depth is seen
	p, e := parse(t, deep(api.MaxDepth)+"\r\nin")
	if q, ok := Find(p, []int{1, 1, 1, 1, 1, 1}); e != api.OK || !ok || q.Type != "text/plain" || q.To-q.From != 2 {
		t.Errorf("the deepest part is %+v, %v, %v", q, ok, e)
	}
}

// tree is a part with some in it.
func tree(called string, l ...api.Part) api.Part {
	return api.Part{Type: called, Boundary: "of " + called, From: 1, To: 9, Lines: 2, Parts: l}
}

// TestFind: number by number (5.2).
func TestFind(t *testing.T) {
	a, b, c := tree("a"), tree("b"), tree("c")
	bc, one := tree("bc", b, c), tree("one", tree("two", a))
	all := tree("all", a, bc, one)
	none := api.Part{}
	for _, x := range []struct {
		p    api.Part
		path []int
		want api.Part
		ok   bool
	}{
		{all, nil, all, true},
		{all, []int{}, all, true},
		{all, []int{1}, a, true},
		{all, []int{2}, bc, true},
		{all, []int{3}, one, true},
		{all, []int{2, 1}, b, true},
		{all, []int{2, 2}, c, true},
		{all, []int{3, 1}, one.Parts[0], true},
		{all, []int{3, 1, 1}, a, true},
		// beyond
		{all, []int{0}, none, false},
		{all, []int{-1}, none, false},
		{all, []int{-1 << 63}, none, false},
		{all, []int{4}, none, false},
		{all, []int{1<<63 - 1}, none, false},
		{all, []int{2, 0}, none, false},
		{all, []int{2, 3}, none, false},
		{all, []int{2, -1}, none, false},
		{all, []int{0, 1}, none, false},
		{all, []int{4, 1}, none, false},
		{all, []int{3, 2}, none, false},
		{all, []int{3, 1, 2}, none, false},
		// 1 of what has no Parts
		{a, []int{1}, a, true},
		{a, []int{2}, none, false},
		{a, []int{0}, none, false},
		{a, []int{1, 1}, none, false},
		{a, []int{1, 2}, none, false},
		{a, []int{1, 0}, none, false},
		{all, []int{1, 1}, a, true},
		{all, []int{2, 2, 1}, c, true},
		{all, []int{3, 1, 1, 1}, a, true},
		{all, []int{1, 2}, none, false},
		{all, []int{1, 0}, none, false},
		{all, []int{1, 1, 1}, none, false},
		{all, []int{2, 1, 1, 1}, none, false},
		{all, []int{3, 1, 1, 1, 1}, none, false},
		// what no text is
		{none, nil, none, true},
		{none, []int{1}, none, true},
		{none, []int{0}, none, false},
		{none, []int{2}, none, false},
		{none, []int{1, 1}, none, false},
		{api.Part{Parts: []api.Part{}}, []int{1}, none, true},
	} {
		if got, ok := Find(x.p, x.path); ok != x.ok || Print(got) != Print(x.want) || !same(got, x.want) {
			t.Errorf("Find(%s, %v) = %+v, %v, not %+v, %v", Print(x.p), x.path, got, ok, x.want, x.ok)
		}
	}
}

// same holds two parts against each other, field by field (an empty list may be nil).
func same(p, q api.Part) bool {
	if p.Type != q.Type || p.Boundary != q.Boundary || p.From != q.From || p.To != q.To || p.Lines != q.Lines || len(p.Parts) != len(q.Parts) {
		return false
	}
	for i := range p.Parts {
		if !same(p.Parts[i], q.Parts[i]) {
			return false
		}
	}
	return true
}

// TestPrint: what has Parts, and what has none (5.2).
func TestPrint(t *testing.T) {
	leaf := api.Part{Type: "text/plain", Boundary: "b", From: 7, To: 19, Lines: 3}
	other := api.Part{Type: "x", From: 5, To: 5}
	for _, c := range []struct {
		p    api.Part
		want string
	}{
		{api.Part{}, `("" 0 0)`},
		{leaf, `("text/plain" 3 12)`},
		{other, `("x" 0 0)`},
		{api.Part{Type: "a/b", To: 10, Lines: 10}, `("a/b" 10 10)`},
		{tree("m", leaf), `(("text/plain" 3 12) "m")`},
		{tree("m", leaf, other), `(("text/plain" 3 12) ("x" 0 0) "m")`},
		{tree("m", leaf, leaf, leaf), `(("text/plain" 3 12) ("text/plain" 3 12) ("text/plain" 3 12) "m")`},
		{tree("m", tree("n", leaf, other), other), `((("text/plain" 3 12) ("x" 0 0) "n") ("x" 0 0) "m")`},
		{tree("m", tree("n", tree("o", leaf))), `(((("text/plain" 3 12) "o") "n") "m")`},
		{tree(""), `("" 2 8)`},
		{tree("", api.Part{}), `(("" 0 0) "")`},
		// its letters are as they are
		{api.Part{Type: "A \"b\\\"\x00\xff\r\n)"}, "(\"A \"b\\\"\x00\xff\r\n)\" 0 0)"},
		// numbers below 0
		{api.Part{Type: "x", From: 9, To: 4, Lines: -2}, `("x" -2 -5)`},
	} {
		if got := Print(c.p); got != c.want {
			t.Errorf("Print(%+v) = %q, not %q", c.p, got, c.want)
		}
	}
	for s, want := range map[string]string{
		"":      `("text/plain" 0 0)`,
		"\r\na": `("text/plain" 0 1)`,
		mixed + "--b\r\n\r\none\r\ntwo\r\n--b\r\nContent-Type: Text/HTML\r\n\r\n\n\r\n--b--": `(("text/plain" 1 8) ("text/html" 1 1) "multipart/mixed")`,
		mixed + "no parts\r\n": `("multipart/mixed" 1 10)`,
		deep(2) + "\r\nin":     `((("text/plain" 0 2) "multipart/x") "multipart/x")`,
	} {
		p, _ := parse(t, s)
		if got := Print(p); got != want {
			t.Errorf("Print of %q = %q, not %q", s, got, want)
		}
	}
}

// second reads a part place by place, as the chapter's words go.
func second(s string, from, to int) api.Part {
	starts := func(begin int) []int { // where LINEs begin, and what lacks its end
		l := []int{begin}
		for i := begin + 2; i <= to; i++ {
			if s[i-2] == '\r' && s[i-1] == '\n' {
				l = append(l, i)
			}
		}
		return l
	}
	p := api.Part{Type: "text/plain", From: to, To: to}
	for _, i := range starts(from) {
		if i+2 <= to && s[i:i+2] == "\r\n" {
			p.From = i + 2
			break
		}
	}
	for i := p.From; i < to; i++ {
		if s[i] == '\n' {
			p.Lines++
		}
	}
	fields, err := head.Fields(s[from:to])
	said, told := head.Get(fields, "Content-Type")
	if err == nil && told {
		p.Type = strings.Trim(head.Small(strings.Split(said, ";")[0]), " \t")
		if len(p.Type) >= 10 && p.Type[:10] == "multipart/" {
			p.Boundary, _ = head.Param(said, "Boundary")
		}
	}
	if p.Boundary == "" {
		return p
	}
	begin := -1
	lines := append(starts(p.From), to)
	for k := 0; k+1 < len(lines); k++ {
		line, ended := strings.CutSuffix(s[lines[k]:lines[k+1]], "\r\n")
		for strings.HasSuffix(line, " ") || strings.HasSuffix(line, "\t") {
			line = line[:len(line)-1]
		}
		last := line == "--"+p.Boundary+"--"
		if line != "--"+p.Boundary && !last {
			continue
		}
		if begin >= 0 {
			end := lines[k] - 2
			if end < begin {
				end = begin
			}
			p.Parts = append(p.Parts, second(s, begin, end))
		}
		begin = lines[k+1]
		if !ended {
			begin = to
		}
		if last {
			return p
		}
	}
	if begin >= 0 {
		p.Parts = append(p.Parts, second(s, begin, to))
	}
	return p
}

// measure is how many parts there are, and how many are in one another.
func measure(p api.Part) (count, depth int) {
	count = 1
	for _, q := range p.Parts {
		c, d := measure(q)
		count, depth = count+c, max(depth, d+1)
	}
	return count, depth
}

// checkSecond holds Parse against the second reading.
func checkSecond(t *testing.T, s string) {
	t.Helper()
	want := second(s, 0, len(s))
	if count, depth := measure(want); count > api.MaxParts || depth > api.MaxDepth {
		checkLimit(t, s, true)
	} else {
		check(t, s, want)
	}
}

// TestSecondShort: all short bodies of the signs that matter.
func TestSecondShort(t *testing.T) {
	signs := []string{"\r\n", "--b", "--b--", "--", "--c", " ", "\n", "x", "\r\n--b\r\n", mixed, "Content-Type: multipart/y; boundary=\"c\"\r\n\r\n"}
	var grow func(s string, more int)
	grow = func(s string, more int) {
		checkSecond(t, s)
		if more > 0 {
			for _, sign := range signs {
				grow(s+sign, more-1)
			}
		}
	}
	grow(mixed, 4)
	grow(mixed+"--b\r\n", 4)
	grow("", 3)
}

// drawn is a message as it comes.
func drawn(r *rand.Rand) string {
	signs := []string{"\r\n", "\r\n", "\r\n", "--b", "--b", "--b--", "--c", "--c--", "--", "-", " ", "\t", "\r", "\n", "x", "X: y", "\r\n--b\r\n", "\r\n--c\r\n", "\r\n--c--\r\n", "\r\n--bc\r\n",
		mixed, mixed, "Content-Type: multipart/y; boundary=\"c\"\r\n\r\n", "content-type: MULTIPART/x ;boundary=bc\r\n", "Content-Type: text/html\r\n", "Content-Type: multipart/x; boundary=\"b \"\r\n\r\n"}
	s := []string{"", mixed, "X: y\r\n" + mixed}[r.Intn(3)]
	for range r.Intn(60) {
		s += signs[r.Intn(len(signs))]
	}
	return s
}

// TestSecondDrawn: drawn messages; and each part is what its own text is.
func TestSecondDrawn(t *testing.T) {
	r := rand.New(rand.NewSource(5))
	for range 60_000 {
		s := drawn(r)
		checkSecond(t, s)
		if p, e := parse(t, s); e == api.OK {
			checkInside(t, s, p)
		}
	}
}

// checkInside: parts lie in their part's body, in order, and lead to themselves by their numbers.
func checkInside(t *testing.T, s string, p api.Part) {
	t.Helper()
	at := p.From
	for i, q := range p.Parts {
		if q.From < at || q.To < q.From || q.To > p.To {
			t.Errorf("Parse(%q): %+v lies beyond its place", s, q)
		}
		if f, ok := Find(p, []int{i + 1}); !ok || !same(f, q) {
			t.Errorf("Parse(%q): Find of %d is %+v, %v", s, i+1, f, ok)
		}
		checkInside(t, s, q)
		at = q.To
	}
}

// TestNothingWritten: what is handed in stays, and what comes out is the caller's (P4).
func TestNothingWritten(t *testing.T) {
	build := func() api.Part {
		l := []api.Part{tree("a"), tree("m", tree("b"), tree("n", tree("c"))), tree("behind")}
		return tree("all", l[:2]...)
	}
	p, path := build(), []int{2, 2, 9, 9}
	Print(p)
	q, _ := Find(p, path[:2])
	if !reflect.DeepEqual(p, build()) || !reflect.DeepEqual(p.Parts[:3], append(build().Parts, tree("behind"))) || !reflect.DeepEqual(path, []int{2, 2, 9, 9}) {
		t.Errorf("Find or Print wrote into what it was given: %+v, %v", p, path)
	}
	spoil(&q)
	for _, path := range [][]int{nil, {2}, {2, 1}, {1}, {1, 1}} {
		q, _ := Find(p, path)
		spoil(&q)
		r, _ := Find(p, path)
		spoil(&r)
	}
	if !reflect.DeepEqual(p, build()) {
		t.Errorf("what Find answers shares memory with what it was given: %+v", p)
	}
	s := mixed + "--b\r\n\r\none\r\n--b--"
	first, _ := parse(t, s)
	spoil(&first)
	check(t, s, second(s, 0, len(s)))
}

// spoil writes into all of a part, and behind its lists.
func spoil(p *api.Part) {
	for i := range p.Parts {
		spoil(&p.Parts[i])
	}
	for i := range p.Parts[:cap(p.Parts)] {
		p.Parts[:cap(p.Parts)][i].Type = "spoilt"
	}
	p.Type = "spoilt"
}

// TestGreat: great texts, and parts deep in one another, take no longer than they are long.
func TestGreat(t *testing.T) {
	begin := time.Now()
	many := 300_000
	for _, s := range []string{
		strings.Repeat("x", 10*many),
		mixed + strings.Repeat("--b--x\r\n", many),
		deep(api.MaxDepth) + "\r\n" + strings.Repeat("--b0-\r\n", many),
		mixed + "--b\r\n" + strings.Repeat("--b \r\n", 20) + strings.Repeat("\r\n", many),
	} {
		if _, e := parse(t, s); e != api.OK {
			t.Errorf("a great text tells %v", e)
		}
	}
	checkLimit(t, mixed+strings.Repeat("--b\r\n", many), true)
	checkLimit(t, deep(2000), true)
	p := tree("in")
	var path []int
	for range 1 << 16 {
		p, path = tree("x", p), append(path, 1)
	}
	if q, ok := Find(p, path); !ok || q.Type != "in" {
		t.Errorf("Find of a deep part is %v, %v", q, ok)
	}
	if q, ok := Find(p, nil); !ok || Print(q) != strings.Repeat("(", 1<<16)+`("in" 2 8)`+strings.Repeat(` "x")`, 1<<16) {
		t.Errorf("Print of a deep part is something else")
	}
	if wide, _ := Find(tree("w", make([]api.Part, many)...), nil); Print(wide) != "("+strings.Repeat(`("" 0 0) `, many)+`"w")` {
		t.Errorf("Print of a wide part is something else")
	}
	if took := time.Since(begin); took > 20*time.Second {
		t.Errorf("it took %v", took)
	}
}

func FuzzParse(f *testing.F) {
	r := rand.New(rand.NewSource(7))
	for range 20 {
		f.Add(drawn(r))
	}
	f.Fuzz(func(t *testing.T, s string) { checkSecond(t, s) })
}
