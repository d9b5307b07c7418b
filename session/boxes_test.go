package session_test

import (
	"reflect"
	"strings"
	"testing"

	"letterbox/api"
)

// 11.4: boxes.

func TestCreateDeleteRename(t *testing.T) {
	newTalk(t).run(`
		a> a LOGIN me letter
		< a OK
		a> b CREATE a/b/c
		< b OK
		a> c LIST "" *
		< * LIST () "/" INBOX
		< * LIST () "/" a
		< * LIST () "/" a/b
		< * LIST () "/" a/b/c
		< c OK
		# Create's errors.
		a> d CREATE a/b
		< d NO 9
		a> e CREATE InBox
		< e NO 9
		a> f CREATE a//b
		< f NO 1
		a> g CREATE /a
		< g NO 1
		a> h CREATE a*
		< h NO 1
		a> i CREATE a%
		< i NO 1
		# Delete's.
		a> j DELETE a/
		< j NO 1
		a> k DELETE nowhere
		< k NO 7
		a> l DELETE inbox
		< l NO 6
		a> m DELETE a/b
		< m NO 6
		a> n DELETE a/b/c
		< n OK
		a> o DELETE a/b/c
		< o NO 7
		# Rename's, in their order.
		a> p RENAME a/ b/
		< p NO 1
		a> q RENAME nowhere b/
		< q NO 7
		a> r RENAME a b/
		< r NO 1
		a> s RENAME a inbox
		< s NO 9
		a> t RENAME a a
		< t NO 9
		a> u RENAME a a/x
		< u NO 6
		a> v RENAME a xxxxxxxxxxxxxxxxxxxxxxxxxxxxxxxxxxxxxxxxxxxxxxxxxxxxxxxxxxx
		< v NO 4
		a> w RENAME a x/y
		< w OK
		a> x LIST "" *
		< * LIST () "/" INBOX
		< * LIST () "/" x
		< * LIST () "/" x/y
		< * LIST () "/" x/y/b
		< x OK
		a> y STATUS x/y/b (UIDVALIDITY)
		< * STATUS x/y/b (UIDVALIDITY 3)
		< y OK
		a> z STATUS x (UIDVALIDITY)
		< * STATUS x (UIDVALIDITY 5)
		< z OK`)
}

func TestBoxesAreFull(t *testing.T) {
	k := newTalk(t)
	k.enter("a")
	for i := range api.MaxBoxes - 1 {
		k.feed("a", "a CREATE b"+strings.Repeat("x", i)+"|", "a OK|")
	}
	k.stays("a", "a CREATE c|", "a NO 12|")
	k.stays("a", "a CREATE b|", "a NO 9|")
	k.stays("a", "a RENAME b c/d|", "a NO 12|")
	k.stays("a", "a RENAME inbox c|", "a NO 12|")
	k.feed("a", "a RENAME b c|", "a OK|")
	for i := range 2 * api.MaxBoxes {
		k.feed("a", "a SUBSCRIBE w"+strings.Repeat("x", i%50)+strings.Repeat("y", i/50)+"|", "a OK|")
	}
	k.stays("a", "a SUBSCRIBE c|", "a NO 12|")
	k.stays("a", "a SUBSCRIBE w|", "a OK|")
	k.feed("a", "a UNSUBSCRIBE w|", "a OK|")
	k.feed("a", "a SUBSCRIBE c|", "a OK|")
}

// Names are read by Decode, and written by Encode, in " where they are no word.
func TestNames(t *testing.T) {
	k := newTalk(t)
	k.run(`
		a> a LOGIN me letter
		< a OK
		a> b CREATE &AOk-
		< b OK
		a> c CREATE "a b"
		< c OK
		a> d CREATE "x&-y"
		< d OK
		a> e CREATE "q\"\\"
		< e OK
		a> f CREATE INBOX/x
		< f OK
		a> g LIST "" *
		< * LIST () "/" INBOX
		< * LIST () "/" INBOX/x
		< * LIST () "/" "a b"
		< * LIST () "/" "q\"\\"
		< * LIST () "/" x&-y
		< * LIST () "/" &AOk-
		< g OK
		a> h CREATE inbox/x
		< h NO 9
		a> i SUBSCRIBE &AOk-
		< i OK
		a> j SUBSCRIBE iNbOx
		< j OK
		a> k LSUB "" *
		< * LSUB () "/" INBOX
		< * LSUB () "/" &AOk-
		< k OK
		a> l STATUS "&AOk-" (MESSAGES)
		< * STATUS &AOk- (MESSAGES 0)
		< l OK
		a> m RENAME &AOk- &AOkA6Q-
		< m OK
		a> n STATUS &AOkA6Q- (UIDVALIDITY)
		< * STATUS &AOkA6Q- (UIDVALIDITY 2)
		< n OK
		a> o SELECT &AOkA6Q-
		< * 0 EXISTS
		< * OK [UIDVALIDITY 2]
		< * OK [UIDNEXT 1]
		< o OK`)
	want := []string{"INBOX", "INBOX/x", "a b", `q"\`, "x&y", "\u00e9\u00e9"}
	if got := k.h.Names(); !reflect.DeepEqual(got, want) {
		t.Errorf("%q, not %q", got, want)
	}
}

func TestSubscribe(t *testing.T) {
	newTalk(t).run(`
		a> a LOGIN me letter
		< a OK
		a> b LSUB "" *
		< b OK
		a> c UNSUBSCRIBE x
		< c NO 7
		# Whether or not there is such a box.
		a> d SUBSCRIBE x/y
		< d OK
		a> e SUBSCRIBE x/y
		< e OK
		a> f SUBSCRIBE b
		< f OK
		a> g SUBSCRIBE b/
		< g NO 1
		a> h UNSUBSCRIBE b/
		< h NO 1
		a> i LSUB "" *
		< * LSUB () "/" b
		< * LSUB () "/" x/y
		< i OK
		a> j LIST "" *
		< * LIST () "/" INBOX
		< j OK
		a> k UNSUBSCRIBE x/y
		< k OK
		a> l UNSUBSCRIBE x/y
		< l NO 7
		a> m LSUB "" *
		< * LSUB () "/" b
		< m OK`)
}

// Both texts are one pattern, one behind the other, as they are written.
func TestListOfBothTexts(t *testing.T) {
	k := newTalk(t)
	k.enter("a")
	for _, name := range []string{"a/b", "a/bc", "ab"} {
		if err := k.h.Create(name); err != nil {
			t.Fatal(err)
		}
		if err := k.h.Want(name, true); err != nil {
			t.Fatal(err)
		}
	}
	if err := k.h.Create("\u00e9"); err != nil {
		t.Fatal(err)
	}
	tests := []struct{ args, names string }{
		{`"" ""`, ""},
		{`"" *`, "INBOX a a/b a/bc ab &AOk-"},
		{`"" %`, "INBOX a ab &AOk-"},
		{"a *", "a a/b a/bc ab"},
		{"a %", "a ab"},
		{"a/ %", "a/b a/bc"},
		{"a /b", "a/b"},
		{"a/b c", "a/bc"},
		{`a/b ""`, "a/b"},
		{`"" a/b`, "a/b"},
		{"* b", "a/b ab"},
		{"% b", "ab"},
		{"% /%", "a/b a/bc"},
		{"b a", ""},
		{`"" inbox`, ""},
		{"IN BOX", "INBOX"},
		{`"" I*X`, "INBOX"},
		{`"*" "*"`, "INBOX a a/b a/bc ab &AOk-"},
		{`"" &AOk-`, ""},
		{"\"\" \"\u00e9\"", "&AOk-"},
		{"\"\xc3\" \"\xa9\"", "&AOk-"},
		{`"a b" *`, ""},
	}
	for _, test := range tests {
		for _, name := range []string{"LIST", "LSUB"} {
			want := ""
			for _, s := range strings.Fields(test.names) {
				if name == "LIST" || strings.HasPrefix(s, "a/") || s == "ab" {
					want += "* " + name + " () \"/\" " + s + "|"
				}
			}
			k.stays("a", "x "+name+" "+test.args+"|", want+"x OK|")
			k.stays("a", "x "+strings.ToLower(name)+" "+test.args+"|", want+"x OK|")
		}
	}
}

// 11.4: STATUS.

func TestStatus(t *testing.T) {
	k := newTalk(t)
	k.enter("a")
	k.feed("a", "a CREATE box|b APPEND box x|c APPEND box (\\Seen) y|d APPEND box (\\Seen x) z|e APPEND box (seen) z|",
		"a OK|* OK [APPENDUID 2 1]|b OK|* OK [APPENDUID 2 2]|c OK|* OK [APPENDUID 2 3]|d OK|* OK [APPENDUID 2 4]|e OK|")
	if err := k.box("box").Flag(3, 1, []string{`\Deleted`}); err != nil {
		t.Fatal(err)
	}
	k.box("box").Expunge(func(int) bool { return true })
	numbers := map[string]string{"MESSAGES": "3", "UIDNEXT": "5", "UIDVALIDITY": "2", "UNSEEN": "2"}
	small := map[string]string{"MESSAGES": "messages", "UIDNEXT": "uIdNeXt", "UIDVALIDITY": "Uidvalidity", "UNSEEN": "unseeN"}
	for word, n := range numbers {
		want := "* STATUS box (" + word + " " + n + ")|x OK|"
		k.stays("a", "x STATUS box ("+word+")|", want)
		k.stays("a", "x STATUS box ("+small[word]+")|", want)
		for other, m := range numbers {
			k.stays("a", "x status box ("+small[word]+" "+other+")|", "* STATUS box ("+word+" "+n+" "+other+" "+m+")|x OK|")
		}
	}
	k.run(`
		a> a STATUS box (UNSEEN UIDVALIDITY UIDNEXT MESSAGES UNSEEN)
		< * STATUS box (UNSEEN 2 UIDVALIDITY 2 UIDNEXT 5 MESSAGES 3 UNSEEN 2)
		< a OK
		# As it was asked.
		a> b STATUS inbox (MESSAGES)
		< * STATUS inbox (MESSAGES 0)
		< b OK
		a> c STATUS InBoX (UIDNEXT UNSEEN)
		< * STATUS InBoX (UIDNEXT 1 UNSEEN 0)
		< c OK
		a> d STATUS "INBOX" (UIDVALIDITY)
		< * STATUS INBOX (UIDVALIDITY 1)
		< d OK
		# Get's errors; ahead of them the words.
		a> e STATUS nowhere (MESSAGES)
		< e NO 7
		a> f STATUS a//b (MESSAGES)
		< f NO 1
		a> g STATUS BOX (MESSAGES)
		< g NO 7
		a> h STATUS nowhere (X)
		< h BAD 3
		a> i STATUS a//b ()
		< i BAD 3`)
}

// 11.4: APPEND.

func TestAppend(t *testing.T) {
	k := newTalk(t)
	k.enter("a")
	k.run(`
		a> a APPEND inbox word
		< * OK [APPENDUID 1 1]
		< a OK
		a> b APPEND inbox "two words"
		< * OK [APPENDUID 1 2]
		< b OK
		a> c APPEND INBOX (\seen work \Seen) x
		< * OK [APPENDUID 1 3]
		< c OK
		a> d APPEND InBox 7 x
		< * OK [APPENDUID 1 4]
		< d OK
		a> e APPEND inbox () "2147483647" ""
		< * OK [APPENDUID 1 5]
		< e OK
		a> f APPEND inbox ("a" \draft) 0 07
		< * OK [APPENDUID 1 6]
		< f OK
		a> g APPEND inbox () x
		< * OK [APPENDUID 1 7]
		< g OK
		a> h APPEND inbox 12
		< * OK [APPENDUID 1 8]
		< h OK
		a> i APPEND inbox (x) 12
		< * OK [APPENDUID 1 9]
		< i OK
		a> j APPEND inbox 3 12
		< * OK [APPENDUID 1 10]
		< j OK`)
	k.feed("a", "k APPEND inbox 5 {6}|a|b|", "+ go|")
	k.feed("a", "|", "* OK [APPENDUID 1 11]|k OK|")
	want := []api.Letter{
		{UID: 1, Text: "word"},
		{UID: 2, Text: "two words"},
		{UID: 3, Flags: []string{`\Seen`, "work"}, Text: "x"},
		{UID: 4, Day: 7, Text: "x"},
		{UID: 5, Day: api.MaxNumber},
		{UID: 6, Flags: []string{`\Draft`, "a"}, Text: "07"},
		{UID: 7, Text: "x"},
		{UID: 8, Text: "12"},
		{UID: 9, Flags: []string{"x"}, Text: "12"},
		{UID: 10, Day: 3, Text: "12"},
		{UID: 11, Day: 5, Text: "a\r\nb\r\n"},
	}
	got := k.box("INBOX").Letters
	if len(got) != len(want) {
		t.Fatalf("%d letters, not %d", len(got), len(want))
	}
	for i, l := range got {
		w := want[i]
		if l.UID != w.UID || l.Day != w.Day || l.Text != w.Text || strings.Join(l.Flags, " ") != strings.Join(w.Flags, " ") {
			t.Errorf("%+v, not %+v", l, w)
		}
	}
}

// Get's errors, and Append's, in their order.
func TestAppendErrors(t *testing.T) {
	k := newTalk(t)
	k.enter("a")
	long := `"` + strings.Repeat("x", api.MaxMessage+1) + `"`
	key := strings.Repeat("x", api.MaxKeyword+1)
	const tooMany = "(a b c d e f g h i j k l m)"
	for _, test := range [][2]string{
		{"a//b (\\Nope) 2147483648 " + long, "1"},
		{"nowhere (\\Nope) 2147483648 " + long, "7"},
		{"inbox (\\Nope) 2147483648 " + long, "4"},
		{"inbox " + long, "4"},
		{"inbox (\\Nope) 2147483648 x", "3"},
		{"inbox (a-b) x", "3"},
		{"inbox (\"\") x", "3"},
		{"inbox (" + key + " \\Nope) x", "4"},
		{"inbox (\\Nope " + key + ") x", "3"},
		{"inbox " + tooMany + " x", "4"},
		{"inbox (x) 2147483648 x", "2"},
		{"inbox 9223372036854775808 x", "2"},
		{"inbox 99999999999999999999999999999999999999999999 x", "2"},
	} {
		k.stays("a", "x APPEND "+test[0]+"|", "x NO "+test[1]+"|")
	}
	k.feed("a", "x APPEND inbox \""+strings.Repeat("x", api.MaxMessage)+"\"|", "* OK [APPENDUID 1 1]|x OK|")
	for len(k.box("INBOX").Letters) < api.MaxLetters {
		k.fill("INBOX", "x")
	}
	k.stays("a", "x APPEND inbox x|", "x NO 12|")
	k.stays("a", "x APPEND inbox 2147483648 x|", "x NO 2|")
	k = talkIn(t, loaded(t, nil, api.MaxNumber-1, 1))
	k.enter("a")
	k.feed("a", "x APPEND inbox x|", "* OK [APPENDUID 3 2147483646]|x OK|")
	k.stays("a", "x APPEND inbox x|", "x NO 12|")
}

// 11.4: SELECT and EXAMINE.

func TestSelect(t *testing.T) {
	k := newTalk(t)
	k.fill("INBOX", "1", "2")
	if err := k.box("INBOX").Flag(1, 0, []string{`\Deleted`}); err != nil {
		t.Fatal(err)
	}
	k.box("INBOX").Expunge(func(int) bool { return true })
	k.run(`
		a> a LOGIN me letter
		< a OK
		a> b SELECT nowhere
		< b NO 7
		a> c CHECK
		< c NO 6
		a> d SELECT InBox
		< * 1 EXISTS
		< * OK [UIDVALIDITY 1]
		< * OK [UIDNEXT 3]
		< d OK
		a> e CREATE box
		< e OK
		a> f EXAMINE box
		< * 0 EXISTS
		< * OK [UIDVALIDITY 2]
		< * OK [UIDNEXT 1]
		< f OK
		a> g EXPUNGE
		< g NO 13
		a> h SELECT box
		< * 0 EXISTS
		< * OK [UIDVALIDITY 2]
		< * OK [UIDNEXT 1]
		< h OK
		a> i EXPUNGE
		< i OK
		# What is no name leaves it as it is; what is no box chooses none.
		a> j SELECT &
		< j BAD 3
		a> k CHECK
		< k OK
		a> l SELECT a//b
		< l NO 1
		a> m CHECK
		< m NO 6
		a> n EXAMINE inbox
		< * 1 EXISTS
		< * OK [UIDVALIDITY 1]
		< * OK [UIDNEXT 3]
		< n OK
		a> o EXAMINE nowhere
		< o NO 7
		a> p EXPUNGE
		< p NO 6
		a> q SELECT inbox
		< * 1 EXISTS
		< * OK [UIDVALIDITY 1]
		< * OK [UIDNEXT 3]
		< q OK
		a> r EXPUNGE
		< r OK`)
}

// A new View sees all as it is: nothing of it is news, and nothing of the box that was chosen.
func TestSelectIsANewView(t *testing.T) {
	k := newTalk(t)
	k.fill("INBOX", "1", "2", "3")
	if err := k.h.Create("box"); err != nil {
		t.Fatal(err)
	}
	k.choose("a", "SELECT", "inbox")
	if err := k.box("INBOX").Flag(2, 0, []string{`\Deleted`}); err != nil {
		t.Fatal(err)
	}
	k.box("INBOX").Expunge(func(int) bool { return true })
	k.fill("INBOX", "4")
	k.run(`
		a> a SELECT inbox
		< * 3 EXISTS
		< * OK [UIDVALIDITY 1]
		< * OK [UIDNEXT 5]
		< a OK
		a> b FETCH 1:* UID
		< * 1 FETCH (UID 1)
		< * 2 FETCH (UID 3)
		< * 3 FETCH (UID 4)
		< b OK`)
	k.fill("INBOX", "5")
	k.run(`
		a> c SELECT box
		< * 0 EXISTS
		< * OK [UIDVALIDITY 2]
		< * OK [UIDNEXT 1]
		< c OK
		a> d NOOP
		< d OK
		a> e SELECT nowhere
		< e NO 7
		a> f NOOP
		< f OK`)
}

// A box is chosen by its Name: INBOX, whatever letters are great.
func TestSelectByName(t *testing.T) {
	k := newTalk(t)
	if err := k.h.Create("INBOX/x"); err != nil {
		t.Fatal(err)
	}
	k.choose("a", "SELECT", "inbox")
	k.choose("b", "SELECT", "iNBOX/x")
	k.fill("INBOX", "x")
	k.fill("INBOX/x", "x", "y")
	k.run(`
		a> a NOOP
		< * 1 EXISTS
		< a OK
		b> b NOOP
		< * 2 EXISTS
		< b OK
		a> c STORE 1 FLAGS x
		< * 1 FETCH (FLAGS (x))
		< c OK
		b> d EXPUNGE
		< d OK`)
}
