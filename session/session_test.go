package session_test

import (
	"errors"
	"fmt"
	"math/rand"
	"reflect"
	"strconv"
	"strings"
	"testing"

	"letterbox/api"
	"letterbox/archive"
	"letterbox/box"
	"letterbox/house"
	"letterbox/session"
)

// wired is a text with each | as CR LF; shown is the other way.
func wired(s string) string { return strings.ReplaceAll(s, "|", "\r\n") }

func shown(s string) string { return strings.ReplaceAll(s, "\r\n", "|") }

// A talk is a house, and sessions in it, by a letter each.
type talk struct {
	*testing.T
	h   *house.House
	who map[string]*session.Session
}

// newTalk is one in a new house.
func newTalk(t *testing.T) *talk { return talkIn(t, house.New()) }

func talkIn(t *testing.T, h *house.House) *talk {
	t.Helper()
	return &talk{t, h, map[string]*session.Session{}}
}

// of is the session of a letter; it is made when it is asked for first.
func (k *talk) of(who string) *session.Session {
	k.Helper()
	if k.who[who] == nil {
		s, err := session.New(k.h)
		if err != nil || s == nil {
			k.Fatalf("New: %v, %v", s, err)
		}
		k.who[who] = s
	}
	return k.who[who]
}

// feed feeds bytes, and holds what is told against what is wanted (both with | as CR LF).
func (k *talk) feed(who, bytes, want string) {
	k.Helper()
	if got := k.of(who).Feed(wired(bytes)); got != wired(want) {
		k.Errorf("%s: %.300q\n tells %.900q\n   not %.900q", who, bytes, shown(got), want)
	}
}

// run goes through a script. A line `a> text` feeds a the text and CR LF, a line `a>> text` the text alone; lines `< text` behind it are all lines that are told of it. A line with # ahead is a remark.
func (k *talk) run(script string) {
	k.Helper()
	var who, bytes, want string
	flush := func() {
		k.Helper()
		if who != "" {
			k.feed(who, bytes, want)
		}
		who, want = "", ""
	}
	for line := range strings.Lines(script) {
		line = strings.TrimSuffix(strings.TrimLeft(line, "\t"), "\n")
		if line == "" || line[0] == '#' {
			continue
		}
		if told, ok := strings.CutPrefix(line, "< "); ok {
			want += told + "|"
			continue
		}
		flush()
		if one, said, ok := strings.Cut(line, ">> "); ok && len(one) == 1 {
			who, bytes = one, said
		} else if one, said, ok := strings.Cut(line, "> "); ok && len(one) == 1 {
			who, bytes = one, said+"|"
		} else {
			k.Fatalf("no line of a script: %q", line)
		}
	}
	flush()
}

// enter logs in.
func (k *talk) enter(who string) {
	k.Helper()
	k.feed(who, "enter LOGIN me letter|", "enter OK|")
}

// choose logs in, and chooses a box.
func (k *talk) choose(who, how, name string) {
	k.Helper()
	k.enter(who)
	got := k.of(who).Feed("choose " + how + " " + name + "\r\n")
	if !strings.HasSuffix(got, "choose OK\r\n") {
		k.Fatalf("%s %s: %q", how, name, got)
	}
}

// saved is all that the house has, as a text.
func (k *talk) saved() string {
	k.Helper()
	return full(k.T, k.h)
}

func full(t *testing.T, h *house.House) string {
	t.Helper()
	s, err := archive.Full(h.Save())
	if err != nil {
		t.Fatalf("Full: %v", err)
	}
	return s
}

// stays says that a command is answered just so, and changes nothing in the house.
func (k *talk) stays(who, bytes, want string) {
	k.Helper()
	before := k.saved()
	k.feed(who, bytes, want)
	if k.saved() != before {
		k.Errorf("%s: %.300q changed the house", who, bytes)
	}
}

// box is a box of the house.
func (k *talk) box(name string) *box.Box {
	k.Helper()
	b, err := k.h.Get(name)
	if err != nil {
		k.Fatalf("Get of %q: %v", name, err)
	}
	return b
}

// fill puts letters into a box, with texts and no flags.
func (k *talk) fill(name string, texts ...string) {
	k.Helper()
	for _, s := range texts {
		if _, err := k.box(name).Append(nil, 0, s); err != nil {
			k.Fatalf("Append: %v", err)
		}
	}
}

// loaded is a house with letters of some UIDs in INBOX, whose Next is told, and an empty box "other" with such a Next, too.
func loaded(t *testing.T, uids []int, next, otherNext int) *house.House {
	t.Helper()
	b := box.Box{Valid: 3, Next: next}
	for _, n := range uids {
		b.Letters = append(b.Letters, api.Letter{UID: n, Day: n % 7, Text: "text " + strconv.Itoa(n)})
	}
	h, err := house.Load(house.Saved{Names: []string{"INBOX", "other"}, Boxes: []box.Box{b, {Valid: 5, Next: otherNext}}, Next: 9})
	if err != nil {
		t.Fatalf("Load: %v", err)
	}
	return h
}

// What README.md shows, and the document's example.

func TestExample(t *testing.T) {
	k := newTalk(t)
	if _, err := k.box("INBOX").Append(nil, 20, "hello"); err != nil {
		t.Fatal(err)
	}
	k.run(`
		a> a login me letter
		< a OK
		a> b SELECT inbox
		< * 1 EXISTS
		< * OK [UIDVALIDITY 1]
		< * OK [UIDNEXT 2]
		< b OK
		a> c APPEND inbox {5}
		< + go
		a> world
		< * OK [APPENDUID 1 2]
		< * 2 EXISTS
		< c OK
		a> d FETCH 1 (FLAGS BODY.PEEK[])
		< * 1 FETCH (FLAGS () BODY[] {5}|hello)
		< d OK
		a> e STORE 2 +FLAGS (\Deleted)
		< * 2 FETCH (FLAGS (\Deleted))
		< e OK
		a> f EXPUNGE
		< * 2 EXPUNGE
		< f OK
		a> g FETCH 1 X
		< g BAD 3
		a> h LOGOUT
		< * BYE
		< h OK`)
	if !k.of("a").Over() {
		t.Error("not over")
	}
}

// 11.1: New.

func TestNew(t *testing.T) {
	s, err := session.New(nil)
	var at *api.At
	if s != nil || api.Tell(err) != api.ErrMissing || errors.As(err, &at) {
		t.Errorf("New(nil): %v, %v", s, err)
	}
	s, err = session.New(house.New())
	if s == nil || err != nil {
		t.Fatalf("New: %v, %v", s, err)
	}
	if s.Over() {
		t.Error("a new session is over")
	}
	if got := s.Feed(""); got != "" || s.Over() {
		t.Errorf("no bytes: %q, %v", got, s.Over())
	}
	// It is FRESH.
	if got := s.Feed("a SELECT inbox\r\nb LOGIN me letter\r\n"); got != "a NO 6\r\nb OK\r\n" {
		t.Errorf("%q", got)
	}
}

// 11.1: bytes in pieces.

// longTalk is what one session says in a new house, with many waits, and what it is told of each.
func longTalk() [][2]string {
	return [][2]string{
		{"a LOGIN {2}|me {6}|letter|", "+ go|+ go|a OK|"},
		{"b CREATE {3}|x y|", "+ go|b OK|"},
		// What ends with {3} here is a letter's text, and nothing is waited for.
		{"c APPEND inbox (\\Seen) 3 {23}|Subject: a||hello {3}|", "+ go|* OK [APPENDUID 1 1]|c OK|"},
		{"d SELECT inbox|", "* 1 EXISTS|* OK [UIDVALIDITY 1]|* OK [UIDNEXT 2]|d OK|"},
		{"e FETCH 1 (BODY[TEXT] FLAGS UID)|", "* 1 FETCH (BODY[TEXT] {9}|hello {3} FLAGS (\\Seen) UID 1)|e OK|"},
		{"f STORE 1 +FLAGS (work \\Deleted)|", "* 1 FETCH (FLAGS (\\Seen \\Deleted work))|f OK|"},
		{"|", "* BAD 3|"},
		{" x|", "* BAD 3|"},
		{"g x|", "g BAD 3|"},
		{"(h NOOP|", "* BAD 3|"},
		{"i NOOP (|", "i BAD 3|"},
		{"j UID SEARCH TEXT {0}| SUBJECT {1}|a|", "+ go|+ go|* SEARCH 1|j OK|"},
		{"k COPY 1 {3}|x y|", "+ go|* OK [COPYUID 2 1 1]|k OK|"},
		{"l STATUS {3}|x y (MESSAGES UIDNEXT)|", "+ go|* STATUS \"x y\" (MESSAGES 1 UIDNEXT 2)|l OK|"},
		{"m LIST {0}| {1}|*|", "+ go|+ go|* LIST () \"/\" INBOX|* LIST () \"/\" \"x y\"|m OK|"},
		{"n EXPUNGE|", "* 1 EXPUNGE|n OK|"},
		{"o UID FETCH 1:* FLAGS|", "o OK|"},
		{"p APPEND {5}|inbox {0}||", "+ go|+ go|* OK [APPENDUID 1 2]|* 1 EXISTS|p OK|"},
		// The one byte is a CR: what stands behind it is no part.
		{"q NOOP {1}|||", "+ go|q BAD 3|"},
		{"r NOOP|", "r OK|"},
	}
}

// said is all of it, one behind the other.
func said(l [][2]string) (says, told string) {
	for _, p := range l {
		says, told = says+p[0], told+p[1]
	}
	return says, told
}

// talked is what a new session in a new house tells of pieces, whether it is over, and the house then.
func talked(t *testing.T, pieces []string) (string, string) {
	t.Helper()
	h := house.New()
	s, err := session.New(h)
	if err != nil {
		t.Fatal(err)
	}
	var out strings.Builder
	for _, p := range pieces {
		out.WriteString(s.Feed(p))
	}
	return out.String(), fmt.Sprintf("%v %q", s.Over(), full(t, h))
}

// eachCut feeds bytes at once, one by one, cut at each place, and cut anywhere: always the same is told.
func eachCut(t *testing.T, says, told string) {
	t.Helper()
	says, told = wired(says), wired(told)
	got, then := talked(t, []string{says})
	if got != told {
		t.Fatalf("at once:\n tells %q\n   not %q", shown(got), shown(told))
	}
	try := func(pieces []string) {
		t.Helper()
		if now, end := talked(t, pieces); now != told || end != then {
			t.Fatalf("in pieces %.600q:\n tells %.900q, %s\n   not %.900q, %s", pieces, now, end, told, then)
		}
	}
	try(strings.Split(says, ""))
	for i := range len(says) + 1 {
		try([]string{says[:i], says[i:]})
		j := min(i+1, len(says))
		try([]string{says[:i], "", says[i:j], says[j:], ""})
	}
	drawn := rand.New(rand.NewSource(1))
	for range 200 {
		var pieces []string
		for rest := says; rest != ""; {
			n := 1 + drawn.Intn(min(len(rest), 40))
			pieces = append(pieces, rest[:n])
			rest = rest[n:]
		}
		try(pieces)
	}
}

func TestPieces(t *testing.T) {
	l := longTalk()
	k := newTalk(t)
	for _, p := range l {
		k.feed("a", p[0], p[1])
	}
	says, told := said(l)
	eachCut(t, says, told)
	eachCut(t, says+"s LOGOUT|t NOOP|", told+"* BYE|s OK|")
	eachCut(t, says+"s CREATE {1}|y {5000}|t NOOP|", told+"+ go|* BYE too long|")
}

// 11.1: what is waited for.

func TestGoOnceForEachWait(t *testing.T) {
	newTalk(t).run(`
		a>> a LOGIN {2}
		a>> |
		< + go
		a>> m
		a>> e
		a>>  {6
		a>> }|
		< + go
		a>> let
		a>> ter
		a>> |
		< a OK
		# Of the next command it is told anew.
		a>> b CREATE {1}|
		< + go
		a>> x|c CREATE {1}|y|d CREATE {1}|
		< b OK
		< + go
		< c OK
		< + go
		a>> z|
		< d OK
		a> e LIST {0}
		< + go
		a>>  "*"|
		< * LIST () "/" INBOX
		< * LIST () "/" x
		< * LIST () "/" y
		< * LIST () "/" z
		< e OK
		# What is no number is not waited for.
		a> f CREATE {01}
		< f BAD 3
		a> g CREATE {-1}
		< g BAD 3
		a> h CREATE {4611686018427387905}
		< h BAD 3
		a> i CREATE {1} x
		< i BAD 3`)
}

func TestManyCommandsInOneFeed(t *testing.T) {
	k := newTalk(t)
	k.feed("a", "a NOOP|b CREATE x|c LOGIN me letter|d CREATE x||e NOO", "a OK|b NO 6|c OK|d OK|* BAD 3|")
	k.feed("a", "P|f CREATE x|g ", "e OK|f NO 9|")
	k.feed("a", "LOGOUT|h NOOP|", "* BYE|g OK|")
}

// 11.1: what is too long.

func TestTooLong(t *testing.T) {
	x := func(n int) string { return strings.Repeat("x", n) }
	tests := []struct{ says, told string }{
		// As long as it may be: with its CR LF, or without one yet.
		{"a NOOP " + x(api.MaxLine-9) + "|", "a BAD 3|"},
		{x(api.MaxLine), ""},
		{x(api.MaxLine-1) + "\r", ""},
		{x(api.MaxLine-2) + "|", "* BAD 3|"},
		{"a NOOP {100}|" + x(100) + " " + x(api.MaxLine-117) + "|", "+ go|a BAD 3|"},
		// One more.
		{"a NOOP " + x(api.MaxLine-8) + "|", "* BYE too long|"},
		{x(api.MaxLine + 1), "* BYE too long|"},
		{x(api.MaxLine-1) + "|", "* BYE too long|"},
		// With the bytes that are told to come; that they are waited for is told only where they may.
		{"a NOOP {2985}|", "+ go|"},
		{"a NOOP {2986}|", "* BYE too long|"},
		{"a NOOP {4611686018427387904}|", "* BYE too long|"},
		{"a LOGIN {2}|me {6}|letter {5000}|", "+ go|+ go|* BYE too long|"},
		{"a NOOP {2984}|" + x(2984) + "|", "+ go|* BYE too long|"},
		{"a NOOP {2983}|" + x(2983) + "|", "+ go|a BAD 3|"},
		// What is ahead is answered, and what is behind is not.
		{"a NOOP|b LOGIN me letter|" + x(api.MaxLine) + "|c CREATE x|", "a OK|b OK|* BYE too long|"},
		{"a LOGIN me letter|b CREATE {5000}|c CREATE x|", "a OK|* BYE too long|"},
	}
	for _, test := range tests {
		k := newTalk(t)
		k.feed("a", test.says, test.told)
		over := strings.Contains(test.told, "BYE")
		if k.of("a").Over() != over {
			t.Errorf("%.50q: over: %v", test.says, !over)
		}
		if over {
			k.stays("a", "d NOOP|e LOGIN me letter|f CREATE x|", "")
			k.feed("a", x(2*api.MaxLine), "")
			k.feed("b", "a NOOP|", "a OK|")
		}
	}
}

func TestOverTellsNothing(t *testing.T) {
	k := newTalk(t)
	k.choose("a", "SELECT", "inbox")
	k.feed("a", "a LOGOUT|b NOOP|c CREATE x|", "* BYE|a OK|")
	for _, s := range []string{"", "|", "d NOOP|", "e LOGIN {2}|", "f LOGOUT|", strings.Repeat("x", 5000)} {
		k.stays("a", s, "")
		if !k.of("a").Over() {
			t.Errorf("%.20q: not over", s)
		}
	}
	if names := k.h.Names(); !reflect.DeepEqual(names, []string{"INBOX"}) {
		t.Errorf("%q", names)
	}
}
