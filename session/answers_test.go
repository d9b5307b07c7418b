package session_test

import (
	"strings"
	"testing"

	"letterbox/api"
)

// 11.2: an error of Parse.

func TestParseErrors(t *testing.T) {
	tests := [][2]string{
		// No blank, or nothing ahead of it, or no WORD.
		{"|", "* BAD 3|"},
		{"a|", "* BAD 3|"},
		{" |", "* BAD 3|"},
		{" a NOOP|", "* BAD 3|"},
		{"(a NOOP|", "* BAD 3|"},
		{"a) NOOP|", "* BAD 3|"},
		{"\"a\" NOOP|", "* BAD 3|"},
		{"a{ NOOP|", "* BAD 3|"},
		{"a\tb NOOP|", "* BAD 3|"},
		{"\x7f NOOP|", "* BAD 3|"},
		{"\xc3\xa9 NOOP|", "* BAD 3|"},
		{"a\nb NOOP|", "* BAD 3|"},
		{"a{1}|x NOOP|", "+ go|* BAD 3|"},
		// A WORD.
		{"a |", "a BAD 3|"},
		{"a  NOOP|", "a BAD 3|"},
		{"a NOOP |", "a BAD 3|"},
		{"a NOOP\n|", "a BAD 3|"},
		{"a\\}*%]+ NOOP (|", "a\\}*%]+ BAD 3|"},
		{"a NOOP )|", "a BAD 3|"},
		{"a NOOP \"x|", "a BAD 3|"},
		{"a \"NOOP\"|", "a BAD 3|"},
		{"a NOOP {x}|", "a BAD 3|"},
		{"a NOOP {1}||\n|", "+ go|a BAD 3|"},
		// Too many parts, and too many Lists in one another; the names don't matter then.
		{"a x" + strings.Repeat(" x", api.MaxArgs+1) + "|", "a BAD 4|"},
		{"(a x" + strings.Repeat(" x", api.MaxArgs+1) + "|", "* BAD 3|"},
		{"a LOGIN (((((((x)))))))|", "a BAD 4|"},
	}
	fresh, known, chosen := newTalk(t), newTalk(t), newTalk(t)
	known.enter("a")
	chosen.choose("a", "SELECT", "inbox")
	for _, k := range []*talk{fresh, known, chosen} {
		for _, test := range tests {
			k.stays("a", test[0], test[1])
		}
	}
	chosen.feed("a", "a CHECK|", "a OK|")
}

// Behind an error of Parse the View does not look: it is no command.
func TestParseErrorsTellNoNews(t *testing.T) {
	k := newTalk(t)
	k.choose("a", "SELECT", "inbox")
	k.fill("INBOX", "x")
	k.run(`
		a>> |
		< * BAD 3
		a> b NOOP (
		< b BAD 3
		a> c x
		< * 1 EXISTS
		< c BAD 3`)
}

// 11.2: BAD 3.

// misfits are commands whose Args are not as they must be.
func misfits() []string {
	const many = "1,2,3,4,5,6,7,8,9,10,11,12,13,14,15,16,17,18,19,20,21"
	tooLong := strings.Repeat("x", api.MaxName+1)
	l := []string{
		"CAPABILITY x", "CAPABILITY ()", "NOOP x", `NOOP ""`, "NOOP ()", "LOGOUT x", "LOGOUT ()",
		"LOGIN", "LOGIN me", "LOGIN me letter x", "LOGIN me letter ()", "LOGIN (me) letter", "LOGIN me (letter)", "LOGIN (me letter)",
		"RENAME", "RENAME a", "RENAME a b c", "RENAME (a) b", "RENAME a (b)", "RENAME (a b)", "RENAME & b", "RENAME a &", `RENAME "" b`, `RENAME a ""`,
		"STATUS", "STATUS a", "STATUS a ()", "STATUS a MESSAGES", "STATUS a (MESSAGES) x", "STATUS a (MESSAGES) ()", "STATUS (a) (MESSAGES)", "STATUS (MESSAGES)",
		"STATUS a (X)", "STATUS a (MESSAGES RECENT)", "STATUS a ((MESSAGES))", "STATUS a (MESSAGES ())", `STATUS a ("")`, "STATUS & (MESSAGES)", "STATUS a (MESSAGESX)",
		"APPEND", "APPEND a", "APPEND a (x)", "APPEND (a) x", "APPEND & x", "APPEND a x y", "APPEND a 7 8 9", "APPEND a (x) 7 8 9", "APPEND a (x) (y) z", "APPEND a (x) 7 (y)",
		"APPEND a 7 (x) y", "APPEND a 7 (x)", "APPEND a ((x)) y", "APPEND a (x ()) 7 y", "APPEND a x (y)", "APPEND a () () x",
		"APPEND a 07 x", "APPEND a 00 x", "APPEND a -1 x", "APPEND a +1 x", "APPEND a -0 x", `APPEND a "" x`, `APPEND a " 1" x`, "APPEND a 1.0 x", "APPEND a () 07 x", "APPEND a 1x x", "APPEND a 0x1 x",
		"CHECK x", "CHECK ()", "CLOSE x", "CLOSE ()", "EXPUNGE 1", "EXPUNGE ()",
		"SEARCH", "SEARCH ()", "SEARCH x", "SEARCH ALL x", "SEARCH NOT", "SEARCH OR ALL", "SEARCH KEYWORD", "SEARCH KEYWORD \\Nope", "SEARCH UID", "SEARCH UID 0",
		"SEARCH KEYWORD " + strings.Repeat("x", api.MaxKeyword+1), "SEARCH " + many, "SEARCH UID " + many, "SEARCH NOT NOT NOT NOT NOT NOT NOT ALL",
		"STORE", "STORE 1", "STORE 1 FLAGS", "STORE 1 X x", "STORE 1 FLAG x", "STORE 1 FLAGS.SILEN x", "STORE 1 .SILENT x", `STORE 1 "" x`, "STORE 1 *FLAGS x", "STORE 1 ++FLAGS x", "STORE 1 FLAGS.SILENT.SILENT x", "STORE 1 +FLAGS.", "STORE 1 +FLAGS. x",
		"STORE 1 (FLAGS) x", "STORE (1) FLAGS x", "STORE x FLAGS x", "STORE 0 FLAGS x", "STORE 1 FLAGS (x) y", "STORE 1 FLAGS x (y)", "STORE 1 FLAGS (x) ()", "STORE 1 FLAGS ((x))", "STORE 1 FLAGS (x ())", "STORE " + many + " FLAGS x",
		"COPY", "COPY 1", "COPY 1 a b", "COPY (1) a", "COPY 1 (a)", "COPY x a", "COPY 1 &", `COPY 1 ""`, "COPY " + many + " a", "COPY 1 a ()",
		"UID", "UID X", "UID CHECK", "UID CLOSE", "UID NOOP", "UID UID FETCH 1 FLAGS", "UID LIST a b", "UID (FETCH) 1 FLAGS", `UID ""`,
		"UID EXPUNGE", "UID EXPUNGE x", "UID EXPUNGE 0", "UID EXPUNGE (1)", "UID EXPUNGE 1 2", "UID EXPUNGE 1 ()", "UID EXPUNGE " + many,
		"UID SEARCH", "UID SEARCH x", "UID FETCH", "UID FETCH 1", "UID FETCH 1 X", "UID FETCH x FLAGS", "UID STORE 1 FLAGS", "UID STORE 1 X (x)", "UID STORE x FLAGS x", "UID COPY 1", "UID COPY 1 a b", "UID COPY x a",
	}
	for _, name := range []string{"CREATE", "DELETE", "SUBSCRIBE", "UNSUBSCRIBE", "SELECT", "EXAMINE"} {
		for _, args := range []string{"", " a b", " a ()", " (a)", " ()", ` ""`, " &", " a&", " &AOk", " &AGE-", " &-&", " " + tooLong, ` "a` + "\t" + `b"`, ` "` + "\xc3\xa9" + `"`} {
			l = append(l, name+args)
		}
	}
	for _, name := range []string{"LIST", "LSUB"} {
		for _, args := range []string{"", " a", " a b c", " a b ()", " (a) b", " a (b)", " (a b)"} {
			l = append(l, name+args)
		}
	}
	for _, args := range []string{"", " 1", " 1 ()", " x FLAGS", " 0 FLAGS", " 1: FLAGS", " 1,,2 FLAGS", ` "" FLAGS`, " (1) FLAGS", " " + many + " FLAGS", " 1 (FLAGS) UID", " 1 (FLAGS) ()", " 1 FLAGS (UID)", " 1 ((FLAGS))", " 1 (FLAGS (UID))"} {
		l = append(l, "FETCH"+args)
	}
	for _, item := range []string{"X", `""`, "FLAG", "FLAGSX", "RFC822", "RFC822.TEXT", "BODY", "BODY.PEEK", "ENVELOPE", "BODY[", "BODY]", "BODY[]]", "BODY[]x", "xBODY[]", "BODY.PEEKX[]", "BODY.PEEK.[]", "BODYSTRUCTURE[]", "UID[]",
		"BODY[0]", "BODY[01]", "BODY[1.]", "BODY[.1]", "BODY[.]", "BODY[1..2]", "BODY[1.0]", "BODY[1.02]", "BODY[-1]", "BODY[+1]", "BODY[*]", "BODY[1:2]", "BODY[1,2]", `"BODY[ 1]"`, `"BODY[1 ]"`, `"BODY[ ]"`, "BODY[X]", "BODY[1.HEADER]", "BODY[HEADER.1]", "BODY[HEADERS]", "BODY[TEXT.HEADER]", "BODY[MIME]", "BODY[[1]]", "BODY.PEEK[0]", "BODY.PEEK[X]", "BODY[0x1]", "BODY[1e1]"} {
		l = append(l, "FETCH 1 "+item, "FETCH 1 FLAGS "+item, "FETCH 1 ("+item+" FLAGS)", "UID FETCH 1 "+item)
	}
	return l
}

// A letter that is there, and one that is marked: a command that is a misfit changes nothing of them.
func misfitHouse(t *testing.T) *talk {
	k := newTalk(t)
	if err := k.h.Create("a"); err != nil {
		t.Fatal(err)
	}
	k.fill("INBOX", "one", "two")
	if err := k.box("INBOX").Flag(2, 0, []string{`\Deleted`}); err != nil {
		t.Fatal(err)
	}
	return k
}

func TestMisfits(t *testing.T) {
	k := misfitHouse(t)
	k.choose("a", "SELECT", "inbox")
	k.choose("b", "EXAMINE", "inbox")
	for _, c := range misfits() {
		k.stays("a", "x "+c+"|", "x BAD 3|")
		k.stays("b", "x "+strings.ToLower(c)+"|", "x BAD 3|")
	}
	// Both see yet what they saw.
	k.run(`
		a> a SEARCH ALL
		< * SEARCH 1 2
		< a OK
		b> b SEARCH ALL
		< * SEARCH 1 2
		< b OK`)
}

// needsBox says whether a command may be asked for only of a box that is chosen.
func needsBox(c string) bool {
	name, _, _ := strings.Cut(c, " ")
	switch name {
	case "CHECK", "CLOSE", "EXPUNGE", "SEARCH", "FETCH", "STORE", "COPY", "UID":
		return true
	}
	return false
}

// isForAll says whether a command may be asked for by anybody.
func isForAll(c string) bool {
	name, _, _ := strings.Cut(c, " ")
	switch name {
	case "CAPABILITY", "NOOP", "LOGOUT", "LOGIN":
		return true
	}
	return false
}

// Who is FRESH is told ErrState ahead of all else; who is KNOWN, of what needs a box, ahead of its Args.
func TestMisfitsAndStates(t *testing.T) {
	k := misfitHouse(t)
	k.enter("b")
	for _, c := range misfits() {
		fresh, known := "x NO 6|", "x BAD 3|"
		if isForAll(c) {
			fresh = "x BAD 3|"
		}
		if needsBox(c) {
			known = "x NO 6|"
		}
		k.stays("a", "x "+c+"|", fresh)
		k.stays("b", "x "+c+"|", known)
	}
	k.run(`
		a> a LOGIN me letter
		< a OK
		b> b SELECT inbox
		< * 2 EXISTS
		< * OK [UIDVALIDITY 1]
		< * OK [UIDNEXT 3]
		< b OK`)
}

// Of WRITES that are refused, and of a box that is gone, it is told behind the Args.
func TestMisfitsAndRefused(t *testing.T) {
	k := misfitHouse(t)
	k.fill("a", "one")
	k.choose("a", "SELECT", "a")
	k.choose("b", "EXAMINE", "a")
	if err := k.h.Delete("a"); err != nil {
		t.Fatal(err)
	}
	for _, who := range []string{"a", "b"} {
		k.feed(who, "x NOOP|", "* 1 EXPUNGE|x OK|")
		for _, c := range misfits() {
			k.stays(who, "x "+c+"|", "x BAD 3|")
		}
	}
}

func TestNoSuchName(t *testing.T) {
	k := newTalk(t)
	k.enter("b")
	k.choose("c", "SELECT", "inbox")
	for _, name := range []string{"x", "NOOPS", "NOO", "BYE", "EXISTS", "[UIDNEXT", "XCREATE", "CREATE.", "*", "IDLE", "UIDFETCH", "1", "UID.FETCH", "SELECT\\"} {
		for _, args := range []string{"", " x", " 1 FLAGS", " (", " inbox"} {
			want := "BAD 3|"
			if args != " (" {
				k.stays("a", "x "+name+args+"|", "x NO 6|")
			}
			k.stays("b", "x "+name+args+"|", "x "+want)
			k.stays("c", "x "+name+args+"|", "x "+want)
		}
	}
}

// Names of commands may be written in letters great or small.
func TestNamesGreatAndSmall(t *testing.T) {
	newTalk(t).run(`
		a> a nOOp
		< a OK
		a> B lOGIN me letter
		< B OK
		a> c create Box
		< c OK
		a> d list "" *
		< * LIST () "/" Box
		< * LIST () "/" INBOX
		< d OK
		a> e select Box
		< * 0 EXISTS
		< * OK [UIDVALIDITY 2]
		< * OK [UIDNEXT 1]
		< e OK
		a> f uid fetch 1 flags
		< f OK
		a> g close
		< g OK
		a> h close
		< h NO 6`)
}

// 11.2: what the View tells.

func TestNewsInOrder(t *testing.T) {
	k := newTalk(t)
	k.fill("INBOX", "1", "2", "3", "4", "5", "6")
	k.choose("a", "SELECT", "inbox")
	k.choose("c", "EXAMINE", "inbox")
	k.choose("b", "SELECT", "inbox")
	k.run(`
		b> a STORE 2,4 +FLAGS.SILENT \Deleted
		< a OK
		b> b EXPUNGE
		< * 4 EXPUNGE
		< * 2 EXPUNGE
		< b OK
		b> c APPEND inbox x
		< * OK [APPENDUID 1 7]
		< * 5 EXISTS
		< c OK
		b> d STORE 1,3,5 +FLAGS (x \Flagged)
		< * 1 FETCH (FLAGS (\Flagged x))
		< * 3 FETCH (FLAGS (\Flagged x))
		< * 5 FETCH (FLAGS (\Flagged x))
		< d OK
		# The gone from the last one on, how many there are, then flags of those that were seen; not of the new one.
		a> e NOOP
		< * 4 EXPUNGE
		< * 2 EXPUNGE
		< * 5 EXISTS
		< * 1 FETCH (FLAGS (\Flagged x))
		< * 3 FETCH (FLAGS (\Flagged x))
		< e OK
		a> f NOOP
		< f OK
		# Places where those that are gone are seen yet.
		c> g SEARCH ALL
		< * SEARCH 1 3 5 6
		< * 7 EXISTS
		< * 1 FETCH (FLAGS (\Flagged x))
		< * 5 FETCH (FLAGS (\Flagged x))
		< g OK
		c> h FETCH 2:* UID
		< * 3 FETCH (UID 3)
		< * 5 FETCH (UID 5)
		< * 6 FETCH (UID 6)
		< * 7 FETCH (UID 7)
		< h OK
		c> i STORE 1 FLAGS x
		< i NO 13
		c> j CHECK
		< * 4 EXPUNGE
		< * 2 EXPUNGE
		< j OK
		c> k CHECK
		< k OK`)
}

// Those that are gone are told behind all but FETCH, STORE and SEARCH; also behind UID of these, behind errors, and of what was no command of ours.
func TestWhenGoneAreTold(t *testing.T) {
	tests := []struct {
		says, told string
		gone       bool
	}{
		{"CAPABILITY", "* CAPABILITY IMAP4rev1 UIDPLUS|%x OK|", true},
		{"NOOP", "%x OK|", true},
		{"LOGIN me letter", "%x NO 6|", true},
		{"CREATE y", "%x OK|", true},
		{"CREATE inbox", "%x NO 9|", true},
		{"DELETE nowhere", "%x NO 7|", true},
		{"RENAME nowhere y", "%x NO 7|", true},
		{"SUBSCRIBE y", "%x OK|", true},
		{"UNSUBSCRIBE y", "%x NO 7|", true},
		{"LIST y y", "%x OK|", true},
		{"LSUB y y", "%x OK|", true},
		{"STATUS inbox (MESSAGES)", "* STATUS inbox (MESSAGES 2)|%x OK|", true},
		{"APPEND nowhere y", "%x NO 7|", true},
		{"CHECK", "%x OK|", true},
		{"EXPUNGE", "%x OK|", true},
		{"SEARCH 3", "* SEARCH 3|%x OK|", false},
		{"SEARCH x", "%x BAD 3|", false},
		{"FETCH 2 UID", "%x OK|", false},
		{"FETCH 3 UID", "* 3 FETCH (UID 3)|%x OK|", false},
		{"FETCH", "%x BAD 3|", false},
		{"STORE 2 FLAGS ()", "%x OK|", false},
		{"STORE 3 FLAGS (\\Nope)", "%x NO 3|", false},
		{"STORE", "%x BAD 3|", false},
		{"COPY 2 inbox", "%x OK|", true},
		{"UID SEARCH 3", "* SEARCH 3|%x OK|", true},
		{"UID FETCH 2 UID", "%x OK|", true},
		{"UID FETCH 3 UID", "* 3 FETCH (UID 3)|%x OK|", true},
		{"UID STORE 3 FLAGS (\\Nope)", "%x NO 3|", true},
		{"UID STORE 2 FLAGS ()", "%x OK|", true},
		{"UID EXPUNGE 2", "%x OK|", true},
		{"UID", "%x BAD 3|", true},
		{"UID x", "%x BAD 3|", true},
		{"x", "%x BAD 3|", true},
		{"NOOP x", "%x BAD 3|", true},
		{"SELECT &", "%x BAD 3|", true},
		{"EXPUNGE x", "%x BAD 3|", true},
		// No news behind a CLOSE, even if it is none.
		{"CLOSE x", "x BAD 3|", false},
	}
	for _, test := range tests {
		k := newTalk(t)
		k.fill("INBOX", "1", "2", "3")
		k.choose("a", "SELECT", "inbox")
		if err := k.box("INBOX").Flag(2, 0, []string{`\Deleted`}); err != nil {
			t.Fatal(err)
		}
		k.feed("a", "x NOOP|", "* 2 FETCH (FLAGS (\\Deleted))|x OK|")
		k.box("INBOX").Expunge(func(int) bool { return true })
		told, later := "* 2 EXPUNGE|", ""
		if !test.gone {
			told, later = later, told
		}
		k.feed("a", "x "+test.says+"|", strings.Replace(test.told, "%", told, 1))
		k.feed("a", "x NOOP|", later+"x OK|")
	}
}

// News of many and of flags are told behind each command, these three, too.
func TestOtherNewsAreAlwaysTold(t *testing.T) {
	for _, says := range []string{"NOOP", "FETCH 9 UID", "STORE 9 FLAGS x", "SEARCH 9", "UID FETCH 9 UID", "x", "SELECT &", "CREATE inbox", "FETCH", "COPY 9 nowhere"} {
		k := newTalk(t)
		k.fill("INBOX", "1", "2")
		k.choose("a", "SELECT", "inbox")
		if err := k.box("INBOX").Flag(2, 0, []string{"x"}); err != nil {
			t.Fatal(err)
		}
		k.fill("INBOX", "3")
		got := k.of("a").Feed("x " + says + "\r\n")
		if !strings.Contains(got, "* 3 EXISTS\r\n* 2 FETCH (FLAGS (x))\r\nx ") {
			t.Errorf("%s: %q", says, got)
		}
		k.feed("a", "x NOOP|", "x OK|")
	}
}

func TestNewsOfABoxThatIsGone(t *testing.T) {
	k := newTalk(t)
	k.enter("b")
	k.feed("b", "a CREATE box|", "a OK|")
	k.fill("box", "1", "2", "3")
	k.choose("a", "SELECT", "box")
	k.run(`
		b> a DELETE box
		< a OK
		# Not told behind these three.
		a> a SEARCH ALL
		< a NO 7
		a> b FETCH 1 UID
		< b NO 7
		a> c STORE 1 FLAGS x
		< c NO 7
		a> d NOOP
		< * 3 EXPUNGE
		< * 2 EXPUNGE
		< * 1 EXPUNGE
		< d OK
		a> e NOOP
		< e OK
		a> f FETCH 1 UID
		< f NO 7
		# A box of that name is seen, whichever it is.
		b> b CREATE box
		< b OK
		b> c APPEND box x
		< * OK [APPENDUID 3 1]
		< c OK
		a> g NOOP
		< * 1 EXISTS
		< g OK
		a> h FETCH 1 UID
		< * 1 FETCH (UID 1)
		< h OK
		# Called otherwise, it is not there by its name.
		b> d RENAME box other
		< d OK
		a> i CHECK
		< * 1 EXPUNGE
		< i OK
		b> e RENAME other box
		< e OK
		a> j CHECK
		< * 1 EXISTS
		< j OK
		# Gone by one's own hand.
		a> k DELETE box
		< * 1 EXPUNGE
		< k OK`)
}

// INBOX that is called otherwise stays, without letters.
func TestNewsOfInboxThatIsPoured(t *testing.T) {
	k := newTalk(t)
	k.fill("INBOX", "1", "2")
	k.choose("a", "SELECT", "inbox")
	k.run(`
		a> a RENAME inbox old
		< * 2 EXPUNGE
		< * 1 EXPUNGE
		< a OK
		a> b APPEND inbox x
		< * OK [APPENDUID 1 3]
		< * 1 EXISTS
		< b OK
		a> c STATUS old (MESSAGES UIDNEXT)
		< * STATUS old (MESSAGES 2 UIDNEXT 3)
		< c OK`)
}

// 11.3: each in each state.

func TestFresh(t *testing.T) {
	k := newTalk(t)
	k.fill("INBOX", "x")
	k.run(`
		a> a CAPABILITY
		< * CAPABILITY IMAP4rev1 UIDPLUS
		< a OK
		a> b NOOP
		< b OK`)
	// A stranger changes nothing, and sees nothing.
	for _, says := range []string{"CREATE x", "CREATE", "CREATE &", "DELETE nowhere", "RENAME inbox y", "SUBSCRIBE x", "UNSUBSCRIBE x", "LIST \"\" *", "LSUB \"\" *", "STATUS inbox (MESSAGES)", "STATUS", "APPEND inbox x", "SELECT inbox", "SELECT", "EXAMINE inbox",
		"CHECK", "CHECK x", "CLOSE", "EXPUNGE", "SEARCH ALL", "SEARCH x", "FETCH 1 BODY[]", "FETCH", "STORE 1 FLAGS x", "COPY 1 inbox", "UID", "UID x", "UID FETCH 1 BODY[]", "x", "x y z", "uid expunge 1"} {
		k.stays("a", "x "+says+"|", "x NO 6|")
	}
	if k.of("a").Over() {
		t.Error("over")
	}
	k.feed("a", "c LOGOUT|", "* BYE|c OK|")
	if !k.of("a").Over() {
		t.Error("not over")
	}
}

func TestLogin(t *testing.T) {
	for _, says := range []string{`"" letter`, `"" ""`, `me ""`, "me Letter", "me LETTER", "me letters", "me lette", `me " letter"`, `me "letter "`, "letter me", `"" x`} {
		k := newTalk(t)
		k.run("a> a LOGIN " + says + "\n< a NO 13\na> b LIST x x\n< b NO 6\na> c LOGIN x letter\n< c OK\na> d LIST x x\n< d OK")
	}
	for _, says := range []string{"me letter", "x letter", `" " "letter"`, `"letter" letter`, "\"\xff\" letter", "\\ letter"} {
		newTalk(t).run("a> a login " + says + "\n< a OK\na> b LIST x x\n< b OK\na> c LOGIN x letter\n< c NO 6\na> d LOGIN x y\n< d NO 6\na> e LIST x x\n< e OK")
	}
	newTalk(t).feed("a", "a LOGIN {1}|| letter|", "+ go|a BAD 3|")
	newTalk(t).feed("a", "a LOGIN {2}|| {6}|letter|b LIST x x|", "+ go|+ go|a OK|b OK|")
}

func TestKnownAndChosen(t *testing.T) {
	k := newTalk(t)
	k.run(`
		a> a LOGIN me letter
		< a OK
		a> b CAPABILITY
		< * CAPABILITY IMAP4rev1 UIDPLUS
		< b OK
		a> c NOOP
		< c OK
		a> d LOGIN me letter
		< d NO 6
		a> e LOGIN "" x
		< e NO 6`)
	for _, says := range []string{"CHECK", "CLOSE", "EXPUNGE", "SEARCH ALL", "FETCH 1 UID", "STORE 1 FLAGS x", "COPY 1 inbox", "COPY 1 nowhere", "UID FETCH 1 UID", "UID EXPUNGE 1", "UID SEARCH ALL", "UID STORE 1 FLAGS x", "UID COPY 1 inbox", "UID x", "UID"} {
		k.stays("a", "x "+says+"|", "x NO 6|")
	}
	k.run(`
		a> f SELECT inbox
		< * 0 EXISTS
		< * OK [UIDVALIDITY 1]
		< * OK [UIDNEXT 1]
		< f OK
		a> g CAPABILITY
		< * CAPABILITY IMAP4rev1 UIDPLUS
		< g OK
		a> h NOOP
		< h OK
		a> i LOGIN me letter
		< i NO 6
		a> j CHECK
		< j OK
		a> k CLOSE
		< k OK
		a> l CHECK
		< l NO 6
		a> m NOOP
		< m OK
		a> n LOGOUT
		< * BYE
		< n OK`)
	if !k.of("a").Over() {
		t.Error("not over")
	}
}

// Who logs out is told no news.
func TestLogoutOfChosen(t *testing.T) {
	k := newTalk(t)
	k.choose("a", "SELECT", "inbox")
	k.fill("INBOX", "x")
	if err := k.box("INBOX").Flag(1, 0, []string{`\Deleted`}); err != nil {
		t.Fatal(err)
	}
	k.stays("a", "a LOGOUT|", "* BYE|a OK|")
}
