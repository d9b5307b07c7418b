package session_test

import (
	"fmt"
	"strings"
	"testing"

	"letterbox/api"
	"letterbox/archive"
	"letterbox/box"
	"letterbox/house"
)

// flag puts flags to a letter of INBOX.
func (k *talk) flag(uid int, flags ...string) {
	k.Helper()
	if err := k.box("INBOX").Flag(uid, box.Put, flags); err != nil {
		k.Fatalf("Flag: %v", err)
	}
}

// expunge takes all that are marked away from INBOX.
func (k *talk) expunge() { k.box("INBOX").Expunge(func(int) bool { return true }) }

// uids are the numbers of all letters of a box.
func (k *talk) uids(name string) string {
	k.Helper()
	var out []int
	for _, l := range k.box(name).Letters {
		out = append(out, l.UID)
	}
	return fmt.Sprint(out)
}

// has says that a box has letters of just these numbers.
func (k *talk) has(name, uids string) {
	k.Helper()
	if got := k.uids(name); got != uids {
		k.Errorf("%s has %s, not %s", name, got, uids)
	}
}

// 11.5: CHECK, CLOSE, EXPUNGE.

func TestExpunge(t *testing.T) {
	k := newTalk(t)
	k.fill("INBOX", "1", "2", "3", "4")
	k.choose("a", "SELECT", "inbox")
	k.choose("b", "EXAMINE", "inbox")
	k.flag(2, `\Deleted`)
	k.flag(3, `\Deleted`, "x")
	k.flag(4, "Deleted")
	k.stays("b", "a EXPUNGE|", "* 2 FETCH (FLAGS (\\Deleted))|* 3 FETCH (FLAGS (\\Deleted x))|* 4 FETCH (FLAGS (Deleted))|a NO 13|")
	k.stays("a", "a CHECK|", "* 2 FETCH (FLAGS (\\Deleted))|* 3 FETCH (FLAGS (\\Deleted x))|* 4 FETCH (FLAGS (Deleted))|a OK|")
	// All that are marked go, also those that are not seen yet.
	k.fill("INBOX", "5", "6")
	k.flag(5, `\Deleted`)
	k.feed("a", "a EXPUNGE|", "* 3 EXPUNGE|* 2 EXPUNGE|* 3 EXISTS|a OK|")
	k.has("INBOX", "[1 4 6]")
	k.stays("a", "a EXPUNGE|", "a OK|")
	k.stays("b", "a CHECK|", "* 3 EXPUNGE|* 2 EXPUNGE|* 3 EXISTS|a OK|")
	k.stays("b", "a EXPUNGE|", "a NO 13|")
}

func TestClose(t *testing.T) {
	k := newTalk(t)
	k.fill("INBOX", "1", "2", "3")
	k.choose("a", "SELECT", "inbox")
	k.choose("b", "EXAMINE", "inbox")
	k.choose("c", "SELECT", "inbox")
	k.flag(2, `\Deleted`)
	k.fill("INBOX", "4")
	k.flag(4, `\Deleted`)
	// Who only reads takes nothing away, and is told no news.
	k.stays("b", "a CLOSE|", "a OK|")
	k.stays("b", "a CLOSE|", "a NO 6|")
	k.stays("b", "a NOOP|", "a OK|")
	k.feed("a", "a CLOSE|", "a OK|")
	k.has("INBOX", "[1 3]")
	k.stays("a", "a FETCH 1 UID|", "a NO 6|")
	k.stays("a", "a NOOP|", "a OK|")
	k.stays("c", "a NOOP|", "* 2 EXPUNGE|a OK|")
}

func TestRefused(t *testing.T) {
	for _, name := range []string{"gone", "otherwise"} {
		k := newTalk(t)
		if err := k.h.Create("box"); err != nil {
			t.Fatal(err)
		}
		k.fill("box", "1")
		if err := k.box("box").Flag(1, box.Put, []string{`\Deleted`}); err != nil {
			t.Fatal(err)
		}
		k.choose("a", "SELECT", "box")
		k.choose("b", "EXAMINE", "box")
		if name == "gone" {
			if err := k.h.Delete("box"); err != nil {
				t.Fatal(err)
			}
		} else if err := k.h.Rename("box", name); err != nil {
			t.Fatal(err)
		}
		for _, who := range []string{"a", "b"} {
			k.stays(who, "a SEARCH ALL|", "a NO 7|")
			k.stays(who, "a FETCH 1 BODY[]|", "a NO 7|")
			k.stays(who, "a STORE 1 FLAGS x|", "a NO 7|")
			k.stays(who, "a SEARCH x|", "a BAD 3|")
			k.stays(who, "a EXPUNGE|", "* 1 EXPUNGE|a NO 7|")
			k.stays(who, "a COPY 1 inbox|", "a NO 7|")
			k.stays(who, "a COPY 1 a//b|", "a NO 7|")
			k.stays(who, "a COPY 1 nowhere|", "a NO 7|")
			k.stays(who, "a UID SEARCH ALL|", "a NO 7|")
			k.stays(who, "a UID FETCH 1 FLAGS|", "a NO 7|")
			k.stays(who, "a UID STORE 1 FLAGS x|", "a NO 7|")
			k.stays(who, "a UID COPY 1 inbox|", "a NO 7|")
			k.stays(who, "a UID EXPUNGE 1|", "a NO 7|")
			k.stays(who, "a CHECK|", "a OK|")
			k.stays(who, "a CLOSE|", "a OK|")
			k.stays(who, "a CHECK|", "a NO 6|")
		}
		if name == "otherwise" {
			k.has(name, "[1]")
		}
	}
}

// Who only reads may look, and copy, but not write.
func TestReadOnly(t *testing.T) {
	k := newTalk(t)
	k.fill("INBOX", "1")
	k.flag(1, `\Deleted`)
	if err := k.h.Create("box"); err != nil {
		t.Fatal(err)
	}
	k.choose("a", "EXAMINE", "inbox")
	k.stays("a", "a EXPUNGE|", "a NO 13|")
	k.stays("a", "a UID EXPUNGE 1|", "a NO 13|")
	k.stays("a", "a UID EXPUNGE 9|", "a NO 13|")
	k.stays("a", "a STORE 1 FLAGS x|", "a NO 13|")
	k.stays("a", "a STORE 9 FLAGS x|", "a NO 13|")
	k.stays("a", "a STORE 1 FLAGS \\Nope|", "a NO 13|")
	k.stays("a", "a UID STORE 1 -FLAGS x|", "a NO 13|")
	k.stays("a", "a FETCH 1 (FLAGS BODY[] UID)|", "* 1 FETCH (FLAGS (\\Deleted) BODY[] {1}|1 UID 1)|a OK|")
	k.stays("a", "a SEARCH ALL|", "* SEARCH 1|a OK|")
	k.feed("a", "a COPY 1 box|", "* OK [COPYUID 2 1 1]|a OK|")
	k.feed("a", "a APPEND inbox x|", "* OK [APPENDUID 1 2]|* 2 EXISTS|a OK|")
	k.feed("a", "a COPY * inbox|", "* OK [COPYUID 1 2 3]|* 3 EXISTS|a OK|")
}

// 11.5: SEARCH.

func TestSearch(t *testing.T) {
	k := talkIn(t, loaded(t, []int{5, 10, 20, 30}, 40, 1))
	k.choose("a", "SELECT", "inbox")
	k.choose("b", "SELECT", "other")
	k.run(`
		a> a SEARCH ALL
		< * SEARCH 1 2 3 4
		< a OK
		a> b UID SEARCH ALL
		< * SEARCH 5 10 20 30
		< b OK
		a> c SEARCH 2:3
		< * SEARCH 2 3
		< c OK
		a> d UID SEARCH 2:3
		< * SEARCH 10 20
		< d OK
		a> e SEARCH UID 10:20
		< * SEARCH 2 3
		< e OK
		a> f UID search uid 10:20
		< * SEARCH 10 20
		< f OK
		a> g SEARCH *
		< * SEARCH 4
		< g OK
		a> h SEARCH 9:*
		< * SEARCH 4
		< h OK
		a> i SEARCH UID *
		< * SEARCH 4
		< i OK
		a> j SEARCH UID 99:*
		< * SEARCH 4
		< j OK
		a> k SEARCH UID 7
		< * SEARCH
		< k OK
		a> l SEARCH BODY "text 20"
		< * SEARCH
		< l OK
		a> m SEARCH text "TEXT 20"
		< * SEARCH 3
		< m OK
		a> n SEARCH OR 1 (TEXT 3 NOT SEEN)
		< * SEARCH 1 4
		< n OK
		a> o STORE 3 FLAGS (\Seen work)
		< * 3 FETCH (FLAGS (\Seen work))
		< o OK
		a> p SEARCH UNSEEN
		< * SEARCH 1 2 4
		< p OK
		a> q UID SEARCH KEYWORD work SEEN
		< * SEARCH 20
		< q OK
		a> r SEARCH ON 6
		< * SEARCH 3
		< r OK
		b> s SEARCH ALL
		< * SEARCH
		< s OK
		b> t SEARCH *
		< * SEARCH
		< t OK
		b> u UID SEARCH UID 1:*
		< * SEARCH
		< u OK`)
}

// Those that the View sees and the box has; Many and Greatest are of the View, whatever is gone of it.
func TestSearchOfWhatIsSeen(t *testing.T) {
	k := newTalk(t)
	k.fill("INBOX", "1", "2", "3", "4")
	k.choose("a", "SELECT", "inbox")
	k.flag(4, `\Deleted`)
	k.flag(2, `\Deleted`)
	k.expunge()
	k.stays("a", "a SEARCH ALL|", "* SEARCH 1 3|a OK|")
	k.stays("a", "a SEARCH *|", "* SEARCH|a OK|")
	k.stays("a", "a SEARCH 3:*|", "* SEARCH 3|a OK|")
	k.stays("a", "a SEARCH UID *|", "* SEARCH|a OK|")
	k.stays("a", "a SEARCH NOT UID 3:*|", "* SEARCH 1|a OK|")
	// What is new is not seen yet, and no place is its.
	k.fill("INBOX", "5", "6")
	k.stays("a", "a SEARCH 1:9|", "* SEARCH 1 3|* 6 EXISTS|a OK|")
	k.stays("a", "a SEARCH 4:*|", "* SEARCH 5 6|a OK|")
	k.fill("INBOX", "7")
	k.stays("a", "a UID SEARCH ALL|", "* SEARCH 1 3 5 6|* 4 EXPUNGE|* 2 EXPUNGE|* 5 EXISTS|a OK|")
	k.stays("a", "a UID SEARCH ALL|", "* SEARCH 1 3 5 6 7|a OK|")
}

// 11.5: which letters are meant.

func TestSets(t *testing.T) {
	places := func(l ...int) (out string) {
		uids := []int{0, 5, 10, 20, 30}
		for _, n := range l {
			out += fmt.Sprintf("* %d FETCH (UID %d)|", n, uids[n])
		}
		return out + "a OK|"
	}
	k := talkIn(t, loaded(t, []int{5, 10, 20, 30}, 40, 1))
	k.choose("a", "SELECT", "inbox")
	k.choose("b", "SELECT", "other")
	byPlace := map[string][]int{
		"1": {1}, "4": {4}, "5": nil, "2147483647": nil, "*": {4}, "1:*": {1, 2, 3, 4}, "*:1": {1, 2, 3, 4}, "3:2": {2, 3}, "3,1": {1, 3}, "1,1,1": {1}, "4:9": {4}, "9:4": {4}, "9:*": {4}, "5:9": nil, "*:*": {4}, "2,*": {2, 4}, "1:2,2:3": {1, 2, 3},
		"1,2,3,4,5,6,7,8,9,10,11,12,13,14,15,16,17,18,19,20": {1, 2, 3, 4},
	}
	byUID := map[string][]int{
		"5": {1}, "1": nil, "4": nil, "6:9": nil, "6:10": {2}, "*": {4}, "1:*": {1, 2, 3, 4}, "99:*": {4}, "*:99": {4}, "31:99": nil, "29:99": {4}, "20:10": {2, 3}, "30,5": {1, 4}, "21:*": {4}, "2147483647": nil, "5,5:5": {1},
	}
	for set, l := range byPlace {
		k.stays("a", "a FETCH "+set+" UID|", places(l...))
		k.stays("a", "a FETCH \""+set+"\" (UID)|", places(l...))
		k.stays("b", "a FETCH "+set+" UID|", "a OK|")
	}
	for set, l := range byUID {
		k.stays("a", "a UID FETCH "+set+" UID|", places(l...))
		k.stays("a", "a uid \"fetch\" "+set+" (UID)|", places(l...))
		k.stays("b", "a UID FETCH "+set+" UID|", "a OK|")
	}
}

// Letters that are gone, and yet seen, keep their places, and are none.
func TestGoneAndYetSeen(t *testing.T) {
	k := newTalk(t)
	k.fill("INBOX", "1", "2", "3", "4")
	if err := k.h.Create("box"); err != nil {
		t.Fatal(err)
	}
	k.choose("a", "SELECT", "inbox")
	k.choose("b", "SELECT", "inbox")
	k.choose("c", "SELECT", "inbox")
	k.flag(1, `\Deleted`)
	k.flag(4, `\Deleted`)
	k.expunge()
	k.fill("INBOX", "5")
	k.run(`
		a> a FETCH 1:4 UID
		< * 2 FETCH (UID 2)
		< * 3 FETCH (UID 3)
		< * 5 EXISTS
		< a OK
		a> b FETCH 1,4 UID
		< b OK
		a> c FETCH 4:* UID
		< * 5 FETCH (UID 5)
		< c OK
		a> d STORE 1:2 +FLAGS x
		< * 2 FETCH (FLAGS (x))
		< d OK
		b> e COPY 1,3:4 box
		< * OK [COPYUID 2 3 1]
		< * 4 EXPUNGE
		< * 1 EXPUNGE
		< * 3 EXISTS
		< * 1 FETCH (FLAGS (x))
		< e OK
		# The greatest one is the last that is seen, gone or not.
		c> f UID STORE *,1:2 +FLAGS y
		< * 2 FETCH (FLAGS (x y) UID 2)
		< * 4 EXPUNGE
		< * 1 EXPUNGE
		< * 3 EXISTS
		< f OK
		c> g UID FETCH * FLAGS
		< * 3 FETCH (FLAGS () UID 5)
		< g OK`)
}

// 11.6: FETCH.

// parted is a letter with parts in parts.
const parted = "Subject: a|Content-Type: multipart/mixed; boundary=b||" +
	"ahead|--b||one|--b|Content-Type: TEXT/html||two|lines|--b|Content-Type: multipart/alternative; boundary=c||" + inner + "|--b--|behind"

const inner = "--c||in|--c|Content-Type: image/x|||--c--"

// body is what is told of a BODY.
func body(part, text string) string {
	return fmt.Sprintf("BODY[%s] {%d}|%s", part, len(wired(text)), text)
}

func TestItems(t *testing.T) {
	k := newTalk(t)
	k.fill("INBOX", wired(parted), "", wired("|no head"), "all head", wired("Content-Type: multipart/x; boundary=q||--q"+strings.Repeat("|--q", 30)))
	k.flag(1, `\Seen`, `\Draft`, "work")
	if _, err := k.box("INBOX").Append([]string{`\Seen`}, 123, wired("A: b||c")); err != nil {
		t.Fatal(err)
	}
	k.choose("a", "EXAMINE", "inbox")
	top, rest, _ := strings.Cut(parted, "||")
	top += "||"
	const structure = `(("text/plain" 0 3) ("text/html" 1 10) (("text/plain" 0 2) ("image/x" 0 0) "multipart/alternative") "multipart/mixed")`
	tests := []struct {
		place int
		item  string
		told  string
	}{
		{1, "FLAGS", `FLAGS (\Seen \Draft work)`},
		{2, "flags", "FLAGS ()"},
		{1, "UID", "UID 1"},
		{6, "uid", "UID 6"},
		{1, "RFC822.SIZE", fmt.Sprint("RFC822.SIZE ", len(wired(parted)))},
		{2, "rfc822.size", "RFC822.SIZE 0"},
		{6, "RFC822.size", "RFC822.SIZE 9"},
		{1, "INTERNALDATE", "INTERNALDATE 0"},
		{6, "InternalDate", "INTERNALDATE 123"},
		{1, "BODYSTRUCTURE", "BODYSTRUCTURE " + structure},
		{2, "bodystructure", `BODYSTRUCTURE ("text/plain" 0 0)`},
		{3, "BODYSTRUCTURE", `BODYSTRUCTURE ("text/plain" 0 7)`},
		{5, "BODYSTRUCTURE", "BODYSTRUCTURE NIL"},
		{6, "BODYSTRUCTURE", `BODYSTRUCTURE ("text/plain" 0 1)`},
		{1, "BODY[]", body("", parted)},
		{1, "BODY[HEADER]", body("HEADER", top)},
		{1, "BODY[TEXT]", body("TEXT", rest)},
		{1, "BODY[1]", body("1", "one")},
		{1, "BODY[1.1]", body("1.1", "one")},
		{1, "BODY[1.1.1]", "BODY[1.1.1] NIL"},
		{1, "BODY[1.2]", "BODY[1.2] NIL"},
		{1, "BODY[2]", body("2", "two|lines")},
		{1, "BODY[3]", body("3", inner)},
		{1, "BODY[3.1]", body("3.1", "in")},
		{1, "BODY[3.1.1]", body("3.1.1", "in")},
		{1, "BODY[3.2]", body("3.2", "")},
		{1, "BODY[3.3]", "BODY[3.3] NIL"},
		{1, "BODY[4]", "BODY[4] NIL"},
		{1, "BODY[10]", "BODY[10] NIL"},
		{1, "BODY[2147483648]", "BODY[2147483648] NIL"},
		{1, "BODY[18446744073709551617]", "BODY[18446744073709551617] NIL"},
		{1, "BODY[1.99999999999999999999999999999999]", "BODY[1.99999999999999999999999999999999] NIL"},
		{2, "BODY[]", body("", "")},
		{2, "BODY[header]", body("HEADER", "")},
		{2, "BODY[Text]", body("TEXT", "")},
		{2, "BODY[1]", body("1", "")},
		{3, "BODY[]", body("", "|no head")},
		{3, "BODY[HEADER]", body("HEADER", "|")},
		{3, "BODY[TEXT]", body("TEXT", "no head")},
		{3, "BODY[1]", body("1", "no head")},
		{3, "BODY[2]", "BODY[2] NIL"},
		{4, "BODY[HEADER]", body("HEADER", "all head")},
		{4, "BODY[TEXT]", body("TEXT", "")},
		{4, "BODY[1]", body("1", "")},
		{5, "BODY[1]", "BODY[1] NIL"},
		{5, "BODY[TEXT]", body("TEXT", "--q"+strings.Repeat("|--q", 30))},
		{6, "BODY[1]", body("1", "c")},
	}
	for _, test := range tests {
		for _, form := range []string{"%s", "(%s)", `"%s"`, `("%s")`} {
			asked := fmt.Sprintf(form, test.item)
			want := fmt.Sprintf("* %d FETCH (%s)|x OK|", test.place, test.told)
			k.stays("a", fmt.Sprintf("x FETCH %d %s|", test.place, asked), want)
			peek := strings.NewReplacer("BODY[", "BODY.PEEK[", "body[", "body.peek[").Replace(asked)
			k.stays("a", fmt.Sprintf("x fetch %d %s|", test.place, peek), want)
		}
		// With others, in a List or not, in the order in which they are asked for.
		want := fmt.Sprintf("* %d FETCH (UID %d %s FLAGS %s)|x OK|", test.place, test.place, test.told, map[int]string{1: `(\Seen \Draft work)`, 6: `(\Seen)`, 2: "()", 3: "()", 4: "()", 5: "()"}[test.place])
		k.stays("a", fmt.Sprintf("x FETCH %d (UID %s FLAGS)|", test.place, test.item), want)
		k.stays("a", fmt.Sprintf("x FETCH %d UID %s FLAGS|", test.place, test.item), want)
	}
	k.stays("a", "x FETCH 6,2 RFC822.SIZE INTERNALDATE|", "* 2 FETCH (RFC822.SIZE 0 INTERNALDATE 0)|* 6 FETCH (RFC822.SIZE 9 INTERNALDATE 123)|x OK|")
	k.stays("a", "x FETCH 6 (BODY[TEXT] BODY[HEADER] BODY[])|", "* 6 FETCH ("+body("TEXT", "c")+" "+body("HEADER", "A: b||")+" "+body("", "A: b||c")+")|x OK|")
}

// Who reads a text has seen the letter; who peeks, or asks for other things, has not; nor who only reads.
func TestSeenByReading(t *testing.T) {
	k := newTalk(t)
	k.fill("INBOX", "1", "2", "3")
	k.flag(2, `\Draft`)
	k.choose("a", "SELECT", "inbox")
	k.choose("b", "EXAMINE", "inbox")
	for _, says := range []string{"FLAGS", "UID", "RFC822.SIZE", "INTERNALDATE", "BODYSTRUCTURE"} {
		before := k.saved()
		k.of("a").Feed("x FETCH 1:* " + says + "\r\nx UID FETCH 1:* " + says + "\r\n")
		if k.saved() != before {
			t.Errorf("%s is reading", says)
		}
	}
	k.stays("a", "a FETCH 1 BODY.PEEK[]|", "* 1 FETCH (BODY[] {1}|1)|a OK|")
	k.stays("a", "a FETCH 1 (BODY.PEEK[TEXT] FLAGS)|", "* 1 FETCH (BODY[TEXT] {0}| FLAGS ())|a OK|")
	k.stays("a", "a FETCH 1 body.peek[9]|", "* 1 FETCH (BODY[9] NIL)|a OK|")
	k.stays("b", "a FETCH 1 (BODY[] FLAGS)|", "* 1 FETCH (BODY[] {1}|1 FLAGS ())|a OK|")
	k.stays("b", "a UID FETCH 1 BODY[1]|", "* 1 FETCH (BODY[1] {0}| UID 1)|a OK|")
	// It is noted ahead of what is told, wherever the item stands; and is news, since no STORE told it.
	k.run(`
		a> a FETCH 1:2 (FLAGS BODY[9])
		< * 1 FETCH (FLAGS (\Seen) BODY[9] NIL)
		< * 2 FETCH (FLAGS (\Seen \Draft) BODY[9] NIL)
		< * 1 FETCH (FLAGS (\Seen))
		< * 2 FETCH (FLAGS (\Seen \Draft))
		< a OK
		a> b FETCH 1 BODY[HEADER]
		< * 1 FETCH (BODY[HEADER] {1}|1)
		< b OK
		b> c NOOP
		< * 1 FETCH (FLAGS (\Seen))
		< * 2 FETCH (FLAGS (\Seen \Draft))
		< c OK
		# One of both peeks, the other one does not.
		a> d UID FETCH 3 BODY.PEEK[] body[header]
		< * 3 FETCH (BODY[] {1}|3 BODY[HEADER] {1}|3 UID 3)
		< * 3 FETCH (FLAGS (\Seen))
		< d OK`)
}

// Where there would be too many flags, that letter, and those behind it, are not told.
func TestSeenIsTooMuch(t *testing.T) {
	k := newTalk(t)
	k.fill("INBOX", "1", "2", "3", "4")
	full := strings.Split("a b c d e f g h i j k l", " ")
	k.flag(2, append([]string{`\Seen`}, full[1:]...)...)
	k.flag(3, full...)
	k.choose("a", "SELECT", "inbox")
	k.choose("b", "EXAMINE", "inbox")
	k.stays("a", "a FETCH 3:4 BODY[]|", "a NO 4|")
	k.stays("a", "a FETCH 3:4 BODY.PEEK[]|", "* 3 FETCH (BODY[] {1}|3)|* 4 FETCH (BODY[] {1}|4)|a OK|")
	k.stays("b", "a FETCH 3 BODY[]|", "* 3 FETCH (BODY[] {1}|3)|a OK|")
	k.feed("a", "a FETCH 1:* BODY[]|", "* 1 FETCH (BODY[] {1}|1)|* 2 FETCH (BODY[] {1}|2)|* 1 FETCH (FLAGS (\\Seen))|a NO 4|")
	k.feed("a", "a FETCH 1,4 FLAGS|", "* 1 FETCH (FLAGS (\\Seen))|* 4 FETCH (FLAGS ())|a OK|")
	k.stays("a", "a UID FETCH 3 BODY[]|", "a NO 4|")
}

// 11.7: STORE.

func TestStore(t *testing.T) {
	k := newTalk(t)
	k.fill("INBOX", "1", "2", "3")
	k.choose("a", "SELECT", "inbox")
	k.choose("b", "SELECT", "inbox")
	k.run(`
		a> a STORE 1:2 FLAGS (\Seen work)
		< * 1 FETCH (FLAGS (\Seen work))
		< * 2 FETCH (FLAGS (\Seen work))
		< a OK
		a> b STORE 2 +FLAGS \draft play \DRAFT
		< * 2 FETCH (FLAGS (\Seen \Draft play work))
		< b OK
		a> c STORE 1:3 -flags (\seen)
		< * 1 FETCH (FLAGS (work))
		< * 2 FETCH (FLAGS (\Draft play work))
		< * 3 FETCH (FLAGS ())
		< c OK
		a> d STORE 3 flags "x"
		< * 3 FETCH (FLAGS (x))
		< d OK
		a> e STORE 3 "+Flags" ("y")
		< * 3 FETCH (FLAGS (x y))
		< e OK
		# None: all are taken off, no more are noted, none is taken off.
		a> f STORE 1 FLAGS ()
		< * 1 FETCH (FLAGS ())
		< f OK
		a> g STORE 3 +FLAGS ()
		< * 3 FETCH (FLAGS (x y))
		< g OK
		a> h STORE 3 -FLAGS ()
		< * 3 FETCH (FLAGS (x y))
		< h OK
		# What is silent is known, too: no news behind it.
		a> i STORE 1 FLAGS.SILENT a
		< i OK
		a> j STORE 1 +flags.silent (b)
		< j OK
		a> k STORE 1:2 -Flags.Silent a play
		< k OK
		a> l NOOP
		< l OK
		a> m FETCH 1:2 FLAGS
		< * 1 FETCH (FLAGS (b))
		< * 2 FETCH (FLAGS (\Draft work))
		< m OK
		b> n NOOP
		< * 1 FETCH (FLAGS (b))
		< * 2 FETCH (FLAGS (\Draft work))
		< * 3 FETCH (FLAGS (x y))
		< n OK
		a> o STORE 9 FLAGS x
		< o OK
		# What was not told of a letter is told by its STORE, and is no news then.
		b> p STORE 2 +FLAGS z
		< * 2 FETCH (FLAGS (\Draft work z))
		< p OK
		a> q STORE 2 -FLAGS work
		< * 2 FETCH (FLAGS (\Draft z))
		< q OK
		b> r STORE 1 FLAGS q
		< * 1 FETCH (FLAGS (q))
		< * 2 FETCH (FLAGS (\Draft z))
		< r OK
		a> s STORE 3 FLAGS.SILENT q
		< * 1 FETCH (FLAGS (q))
		< s OK`)
}

// Flag's error ends it: what is ahead is done, and told.
func TestStoreErrors(t *testing.T) {
	k := newTalk(t)
	k.fill("INBOX", "1", "2", "3")
	k.flag(2, strings.Split("a b c d e f g h i j k l", " ")...)
	k.choose("a", "SELECT", "inbox")
	key := strings.Repeat("x", api.MaxKeyword+1)
	for _, what := range []string{"FLAGS", "+FLAGS", "-FLAGS", "FLAGS.SILENT", "+FLAGS.SILENT", "-flags.silent"} {
		k.stays("a", "a STORE 1 "+what+" \\Nope|", "a NO 3|")
		k.stays("a", "a STORE 1:* "+what+" (x \\Nope)|", "a NO 3|")
		k.stays("a", "a STORE 1 "+what+" (\"\")|", "a NO 3|")
		k.stays("a", "a STORE 1 "+what+" a-b|", "a NO 3|")
		k.stays("a", "a STORE 1 "+what+" "+key+"|", "a NO 4|")
		k.stays("a", "a STORE 1 "+what+" a b c d e f g h i j k l m|", "a NO 4|")
		k.stays("a", "a UID STORE 1 "+what+" \\Nope|", "a NO 3|")
		// Of no letter there is no error.
		k.stays("a", "a STORE 4 "+what+" \\Nope|", "a OK|")
		k.stays("a", "a UID STORE 4 "+what+" "+key+"|", "a OK|")
	}
	k.feed("a", "a STORE 1:3 +FLAGS m|", "* 1 FETCH (FLAGS (m))|a NO 4|")
	k.feed("a", "a STORE 1:3 +FLAGS.SILENT n|", "a NO 4|")
	k.feed("a", "a FETCH 1,3 FLAGS|", "* 1 FETCH (FLAGS (m n))|* 3 FETCH (FLAGS ())|a OK|")
	k.feed("a", "a STORE 2 +FLAGS a|", "* 2 FETCH (FLAGS (a b c d e f g h i j k l))|a OK|")
}

// 11.7: COPY.

func TestCopy(t *testing.T) {
	k := talkIn(t, loaded(t, []int{5, 6, 8}, 40, 7))
	k.flag(6, `\Seen`, `\Deleted`, "work")
	k.choose("a", "SELECT", "inbox")
	k.run(`
		a> a COPY 2:3 other
		< * OK [COPYUID 5 6,8 7:8]
		< a OK
		a> b STATUS other (MESSAGES UIDNEXT UNSEEN)
		< * STATUS other (MESSAGES 2 UIDNEXT 9 UNSEEN 1)
		< b OK
		# Into the same box: each once.
		a> c COPY 1:* inbox
		< * OK [COPYUID 3 5:6,8 40:42]
		< * 6 EXISTS
		< c OK
		# Of no letters: nothing is told, but errors are.
		a> d COPY 9 other
		< d OK
		a> e COPY 9 nowhere
		< e NO 7
		a> f COPY 9 a//b
		< f NO 1
		a> g COPY 1 nowhere
		< g NO 7
		a> h COPY 3,1 "other"
		< * OK [COPYUID 5 5,8 9:10]
		< h OK
		a> i FETCH 4:* (FLAGS INTERNALDATE BODY.PEEK[])
		< * 4 FETCH (FLAGS () INTERNALDATE 5 BODY[] {6}|text 5)
		< * 5 FETCH (FLAGS (\Seen \Deleted work) INTERNALDATE 6 BODY[] {6}|text 6)
		< * 6 FETCH (FLAGS () INTERNALDATE 1 BODY[] {6}|text 8)
		< i OK
		a> j UID COPY 8,40:* other
		< * OK [COPYUID 5 8,40:42 11:14]
		< j OK
		a> k UID COPY 1:4 other
		< k OK
		a> l SELECT other
		< * 8 EXISTS
		< * OK [UIDVALIDITY 5]
		< * OK [UIDNEXT 15]
		< l OK
		a> m FETCH 1:2 (FLAGS UID INTERNALDATE BODY.PEEK[])
		< * 1 FETCH (FLAGS (\Seen \Deleted work) UID 7 INTERNALDATE 6 BODY[] {6}|text 6)
		< * 2 FETCH (FLAGS () UID 8 INTERNALDATE 1 BODY[] {6}|text 8)
		< m OK`)
}

// All or none.
func TestCopyIntoAFullBox(t *testing.T) {
	k := newTalk(t)
	k.fill("INBOX", "1", "2", "3")
	if err := k.h.Create("box"); err != nil {
		t.Fatal(err)
	}
	for range api.MaxLetters - 2 {
		k.fill("box", "x")
	}
	k.choose("a", "SELECT", "inbox")
	k.stays("a", "a COPY 1:3 box|", "a NO 12|")
	k.stays("a", "a UID COPY 1:3 box|", "a NO 12|")
	k.feed("a", "a COPY 2:3 box|", "* OK [COPYUID 2 2:3 59:60]|a OK|")
	k.stays("a", "a COPY 1 box|", "a NO 12|")
	k.stays("a", "a COPY 9 box|", "a OK|")
	// By their numbers.
	for _, next := range []int{api.MaxNumber - 3, api.MaxNumber - 2, api.MaxNumber} {
		k := talkIn(t, loaded(t, []int{1, 2, 3}, 4, next))
		k.choose("a", "SELECT", "inbox")
		if next == api.MaxNumber-3 {
			k.feed("a", "a COPY 1:3 other|", "* OK [COPYUID 5 1:3 2147483644:2147483646]|a OK|")
		} else {
			k.stays("a", "a COPY 1:3 other|", "a NO 12|")
		}
		k.stays("a", "a COPY 9 other|", "a OK|")
	}
}

// Nothing stands in the place of a set of too many ranges.
func TestCopyOfManyRanges(t *testing.T) {
	var uids []int
	for n := range api.MaxRanges + 1 {
		uids = append(uids, 2*n+1)
	}
	k := talkIn(t, loaded(t, uids, 100, 1))
	k.choose("a", "SELECT", "inbox")
	k.feed("a", "a COPY 1:20 other|", "* OK [COPYUID 5 1,3,5,7,9,11,13,15,17,19,21,23,25,27,29,31,33,35,37,39 1:20]|a OK|")
	k.feed("a", "a COPY 1:21 other|", "* OK [COPYUID 5  21:41]|a OK|")
}

// 11.7: UID.

func TestUID(t *testing.T) {
	k := talkIn(t, loaded(t, []int{5, 10, 20}, 40, 1))
	k.choose("a", "SELECT", "inbox")
	k.run(`
		# UID once, at the end, unless it is asked for.
		a> a UID FETCH 10 FLAGS
		< * 2 FETCH (FLAGS () UID 10)
		< a OK
		a> b uid fetch 10 (UID FLAGS)
		< * 2 FETCH (UID 10 FLAGS ())
		< b OK
		a> c UID FETCH 10:* RFC822.SIZE uid INTERNALDATE
		< * 2 FETCH (RFC822.SIZE 7 UID 10 INTERNALDATE 3)
		< * 3 FETCH (RFC822.SIZE 7 UID 20 INTERNALDATE 6)
		< c OK
		a> d FETCH 2 FLAGS
		< * 2 FETCH (FLAGS ())
		< d OK
		a> e UID FETCH 5 BODY.PEEK[]
		< * 1 FETCH (BODY[] {6}|text 5 UID 5)
		< e OK
		a> f UID STORE 10:20 +FLAGS x
		< * 2 FETCH (FLAGS (x) UID 10)
		< * 3 FETCH (FLAGS (x) UID 20)
		< f OK
		a> g Uid Store 1:10 FLAGS.SILENT (\Deleted)
		< g OK
		a> h UID SEARCH DELETED
		< * SEARCH 5 10
		< h OK
		a> i UID SEARCH 1:2 KEYWORD x
		< * SEARCH
		< i OK
		a> j UID COPY 10 other
		< * OK [COPYUID 5 10 1]
		< j OK
		# News have no UID.
		a> k UID FETCH 20 BODY[9]
		< * 3 FETCH (BODY[9] NIL UID 20)
		< * 3 FETCH (FLAGS (\Seen x))
		< k OK
		a> l UID EXPUNGE 20
		< l OK
		a> m UID EXPUNGE 10
		< * 2 EXPUNGE
		< m OK
		a> n UID expunge 1,2,30:*
		< n OK
		a> o UID EXPUNGE 1:*
		< * 1 EXPUNGE
		< o OK
		a> p UID SEARCH ALL
		< * SEARCH 20
		< p OK`)
	k.has("INBOX", "[20]")
}

// Of a set the greatest one is the last that is seen.
func TestUIDExpungeOfTheGreatest(t *testing.T) {
	k := newTalk(t)
	k.fill("INBOX", "1", "2", "3")
	k.choose("a", "SELECT", "inbox")
	k.flag(3, `\Deleted`)
	k.fill("INBOX", "4")
	k.flag(4, `\Deleted`)
	k.feed("a", "a UID EXPUNGE *|", "* 3 EXPUNGE|* 3 EXISTS|a OK|")
	k.has("INBOX", "[1 2 4]")
	k.feed("a", "a UID EXPUNGE *|", "* 3 EXPUNGE|a OK|")
	k.has("INBOX", "[1 2]")
}

// What is to be true of the whole.

// What is marked goes, and nothing else.
func TestMarkedGoes(t *testing.T) {
	for marks := range 1 << 5 {
		for asked := range 1 << 5 {
			k := newTalk(t)
			k.fill("INBOX", "1", "2", "3", "4", "5")
			var stay, set []string
			for i := range 5 {
				if marks>>i&1 == 1 {
					k.flag(i+1, `\Deleted`)
				}
				if asked>>i&1 == 1 {
					set = append(set, fmt.Sprint(i+1))
				}
				if marks>>i&1 == 0 || asked != 0 && asked>>i&1 == 0 {
					stay = append(stay, fmt.Sprint(i+1))
				}
			}
			k.choose("a", "SELECT", "inbox")
			says := "EXPUNGE"
			if asked != 0 {
				says = "UID EXPUNGE " + strings.Join(set, ",")
			}
			k.of("a").Feed("a " + says + "\r\n")
			k.has("INBOX", "["+strings.Join(stay, " ")+"]")
		}
	}
}

// What was kept lives again: a house that is read from its bytes tells the same.
func TestKeptLivesAgain(t *testing.T) {
	k := newTalk(t)
	says, _ := said(longTalk())
	k.of("a").Feed(wired(says))
	kept, err := archive.Read(k.saved())
	if err != nil {
		t.Fatal(err)
	}
	again, err := house.Load(kept)
	if err != nil {
		t.Fatal(err)
	}
	l := talkIn(t, again)
	const asks = "a LOGIN me letter|b LIST \"\" *|c SELECT \"x y\"|d UID FETCH 1:* (FLAGS INTERNALDATE BODY[])|e COPY 1:* inbox|f CREATE new|g STATUS new (UIDVALIDITY)|h SELECT inbox|i SEARCH ALL|"
	k.feed("b", asks, shown(l.of("b").Feed(wired(asks))))
	if k.saved() != l.saved() {
		t.Error("the houses differ")
	}
}
