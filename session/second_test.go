package session_test

import (
	"errors"
	"fmt"
	"math/rand"
	"regexp"
	"slices"
	"strings"
	"testing"

	"letterbox/api"
	"letterbox/box"
	"letterbox/flags"
	"letterbox/head"
	"letterbox/house"
	"letterbox/mime"
	"letterbox/search"
	"letterbox/seq"
	"letterbox/session"
	"letterbox/utf7"
	"letterbox/wire"
)

// A second reading of the document: commands whole, one by one; the forms of their Args are patterns, and what a View sees is kept as letters.

type second struct {
	h     *house.House
	fresh bool
	over  bool
	name  string // of the box that is chosen; "": none is
	read  bool
	seen  []api.Letter
	uid   bool // of the command that is done: by UIDs
	told  []string
}

var errBad = errors.New("bad")

// A form is how Args look: T an Atom or a String, L a List of these, X any other.
var forms = map[string]string{
	"CAPABILITY": "", "NOOP": "", "LOGOUT": "", "LOGIN": "TT",
	"CREATE": "T", "DELETE": "T", "RENAME": "TT", "SUBSCRIBE": "T", "UNSUBSCRIBE": "T", "LIST": "TT", "LSUB": "TT", "STATUS": "TL", "APPEND": "TL?T?T", "SELECT": "T", "EXAMINE": "T",
	"CHECK": "", "CLOSE": "", "EXPUNGE": "", "SEARCH": ".+", "FETCH": "T(T+|L)", "STORE": "TT(T+|L)", "COPY": "TT", "UID": "T.*",
	"UID EXPUNGE": "T", "UID SEARCH": ".+", "UID FETCH": "T(T+|L)", "UID STORE": "TT(T+|L)", "UID COPY": "TT",
}

func formOf(l []api.Arg) string {
	var out strings.Builder
	for _, a := range l {
		switch {
		case a.Kind != api.List:
			out.WriteByte('T')
		case slices.ContainsFunc(a.List, func(b api.Arg) bool { return b.Kind == api.List }):
			out.WriteByte('X')
		default:
			out.WriteByte('L')
		}
	}
	return out.String()
}

func fits(name string, l []api.Arg) bool {
	return regexp.MustCompile("^(" + forms[name] + ")$").MatchString(formOf(l))
}

// plainTexts are all texts of Args, also those in Lists.
func plainTexts(l []api.Arg) []string {
	out := []string{}
	for _, a := range l {
		if a.Kind == api.List {
			out = append(out, plainTexts(a.List)...)
		} else {
			out = append(out, a.Text)
		}
	}
	return out
}

// answer is what is told of a command.
func (m *second) answer(text string) string {
	m.told = nil
	c, err := wire.Parse(text)
	if err != nil {
		tag := "*"
		if w := regexp.MustCompile(`^([!#-'*-z|}~]+) `).FindStringSubmatch(text); w != nil {
			tag = w[1]
		}
		return fmt.Sprintf("%s BAD %d\r\n", tag, api.Tell(err))
	}
	m.uid = false
	err = m.do(c.Name, c.Args)
	if m.name != "" && c.Name != "CLOSE" {
		m.look(c.Name != "FETCH" && c.Name != "STORE" && c.Name != "SEARCH")
	}
	end := "OK"
	if err == errBad {
		end = "BAD 3"
	} else if err != nil {
		end = fmt.Sprint("NO ", int(api.Tell(err)))
	}
	return strings.Join(append(m.told, c.Tag+" "+end), "\r\n") + "\r\n"
}

func (m *second) tell(format string, l ...any) {
	m.told = append(m.told, "* "+fmt.Sprintf(format, l...))
}

// box is the one that is chosen; nil: it is not there.
func (m *second) box() *box.Box {
	b, _ := m.h.Get(m.name)
	return b
}

// has is the letter of a UID in the box.
func (m *second) has(uid int) (api.Letter, bool) {
	if b := m.box(); b != nil {
		for _, l := range b.Letters {
			if l.UID == uid {
				return l, true
			}
		}
	}
	return api.Letter{}, false
}

func (m *second) look(gone bool) {
	for i := len(m.seen) - 1; i >= 0 && gone; i-- {
		if _, there := m.has(m.seen[i].UID); !there {
			m.tell("%d EXPUNGE", i+1)
			m.seen = append(m.seen[:i:i], m.seen[i+1:]...)
		}
	}
	last, saw := 0, len(m.seen)
	if saw > 0 {
		last = m.seen[saw-1].UID
	}
	if b := m.box(); b != nil {
		for _, l := range b.Letters {
			if l.UID > last {
				m.seen = append(m.seen, l)
			}
		}
	}
	if len(m.seen) > saw {
		m.tell("%d EXISTS", len(m.seen))
	}
	for i := range m.seen[:saw] {
		l, there := m.has(m.seen[i].UID)
		if there && flags.Print(l.Flags) != flags.Print(m.seen[i].Flags) {
			m.seen[i].Flags = l.Flags
			m.tell("%d FETCH (FLAGS %s)", i+1, flags.Print(l.Flags))
		}
	}
}

// do does a command.
func (m *second) do(name string, l []api.Arg) error {
	anybody := slices.Contains([]string{"CAPABILITY", "NOOP", "LOGOUT", "LOGIN"}, name)
	if m.fresh && !anybody {
		return api.ErrState
	}
	if _, ok := forms[name]; !ok {
		return errBad
	}
	if needsBox(name) && m.name == "" {
		return api.ErrState
	}
	if !fits(name, l) {
		return errBad
	}
	if name == "UID" {
		name = "UID " + strings.ToUpper(l[0].Text)
		if _, ok := forms[name]; !ok || !fits(name, l[1:]) {
			return errBad
		}
		l, m.uid, name = l[1:], true, name[len("UID "):]
		if name == "EXPUNGE" {
			set, err := seq.Parse(l[0].Text)
			if err != nil {
				return errBad
			}
			return m.expunge(func(uid int) bool { return seq.Has(set, uid, m.greatest()) })
		}
	}
	switch {
	case anybody:
		return m.forAnybody(name, l)
	case needsBox(name):
		return m.ofBox(name, l)
	}
	return m.ofHouse(name, l)
}

func (m *second) forAnybody(name string, l []api.Arg) error {
	switch name {
	case "CAPABILITY":
		m.tell("CAPABILITY IMAP4rev1 UIDPLUS")
	case "LOGOUT":
		m.tell("BYE")
		m.over, m.name = true, ""
	case "LOGIN":
		if !m.fresh {
			return api.ErrState
		}
		if l[0].Text == "" || l[1].Text != "letter" {
			return api.ErrFalse
		}
		m.fresh = false
	}
	return nil
}

func (m *second) ofHouse(name string, l []api.Arg) error {
	if name == "LIST" || name == "LSUB" {
		for _, s := range m.h.List(l[0].Text+l[1].Text, name == "LSUB") {
			text, _ := utf7.Encode(s)
			m.tell(`%s () "/" %s`, name, wire.Quote(text))
		}
		return nil
	}
	box1, err := utf7.Decode(l[0].Text)
	if err != nil {
		return errBad
	}
	switch name {
	case "CREATE":
		return m.h.Create(box1)
	case "DELETE":
		return m.h.Delete(box1)
	case "SUBSCRIBE", "UNSUBSCRIBE":
		return m.h.Want(box1, name == "SUBSCRIBE")
	case "RENAME":
		box2, err := utf7.Decode(l[1].Text)
		if err != nil {
			return errBad
		}
		return m.h.Rename(box1, box2)
	case "STATUS":
		return m.status(l[0].Text, box1, plainTexts(l[1:]))
	case "APPEND":
		return m.append(box1, l[1:])
	}
	m.name, m.seen = "", nil
	b, err := m.h.Get(box1)
	if err != nil {
		return err
	}
	m.name, _ = house.Name(box1)
	m.read, m.seen = name == "EXAMINE", slices.Clone(b.Letters)
	m.tell("%d EXISTS", len(b.Letters))
	m.tell("OK [UIDVALIDITY %d]", b.Valid)
	m.tell("OK [UIDNEXT %d]", b.Next)
	return nil
}

func (m *second) status(asked, name string, words []string) error {
	b, err := m.h.Get(name)
	if b == nil {
		b = &box.Box{}
	}
	unseen := 0
	for _, l := range b.Letters {
		if !slices.Contains(l.Flags, `\Seen`) {
			unseen++
		}
	}
	numbers := map[string]int{"MESSAGES": len(b.Letters), "UIDNEXT": b.Next, "UIDVALIDITY": b.Valid, "UNSEEN": unseen}
	var out []string
	for _, w := range words {
		n, ok := numbers[strings.ToUpper(w)]
		if !ok {
			return errBad
		}
		out = append(out, fmt.Sprint(strings.ToUpper(w), " ", n))
	}
	if len(out) == 0 {
		return errBad
	}
	if err == nil {
		m.tell("STATUS %s (%s)", wire.Quote(asked), strings.Join(out, " "))
	}
	return err
}

func (m *second) append(name string, l []api.Arg) error {
	var noted []string
	day := 0
	if l[0].Kind == api.List {
		noted, l = plainTexts(l[:1]), l[1:]
	}
	if len(l) == 2 {
		if !regexp.MustCompile(`^(0|[1-9][0-9]*)$`).MatchString(l[0].Text) {
			return errBad
		}
		if _, err := fmt.Sscan(l[0].Text, &day); err != nil {
			day = -1
		}
		l = l[1:]
	}
	b, err := m.h.Get(name)
	if err != nil {
		return err
	}
	uid, err := b.Append(noted, day, l[0].Text)
	if err == nil {
		m.tell("OK [APPENDUID %d %d]", b.Valid, uid)
	}
	return err
}

func (m *second) refused() error {
	if m.box() == nil {
		return api.ErrMissing
	}
	if m.read {
		return api.ErrFalse
	}
	return nil
}

func (m *second) expunge(holds func(uid int) bool) error {
	if err := m.refused(); err != nil {
		return err
	}
	m.box().Expunge(holds)
	return nil
}

// greatest is the UID of the last letter that is seen.
func (m *second) greatest() int {
	if len(m.seen) == 0 {
		return 0
	}
	return m.seen[len(m.seen)-1].UID
}

// meant are the places of all that a set means, from 0 on.
func (m *second) meant(set []api.Range) (out []int) {
	for i, l := range m.seen {
		_, there := m.has(l.UID)
		if m.uid && there && seq.Has(set, l.UID, m.greatest()) || !m.uid && there && seq.Has(set, i+1, len(m.seen)) {
			out = append(out, i)
		}
	}
	return out
}

func (m *second) ofBox(name string, l []api.Arg) error {
	all := func(int) bool { return true }
	switch name {
	case "CHECK":
		return nil
	case "CLOSE":
		_ = m.expunge(all)
		m.name, m.seen = "", nil
		return nil
	case "EXPUNGE":
		return m.expunge(all)
	case "SEARCH":
		return m.search(l)
	}
	set, err := seq.Parse(l[0].Text)
	if err != nil {
		return errBad
	}
	switch name {
	case "FETCH":
		return m.fetch(set, plainTexts(l[1:]))
	case "STORE":
		return m.store(set, strings.ToUpper(l[1].Text), plainTexts(l[2:]))
	}
	return m.copy(set, l[1].Text)
}

func (m *second) search(l []api.Arg) error {
	k, err := search.Parse(l)
	if err != nil {
		return errBad
	}
	if m.box() == nil {
		return api.ErrMissing
	}
	out := "SEARCH"
	for i, s := range m.seen {
		l, there := m.has(s.UID)
		if there && search.Holds(k, l, i+1, search.Box{Many: len(m.seen), Greatest: m.greatest()}) {
			n := i + 1
			if m.uid {
				n = l.UID
			}
			out += fmt.Sprint(" ", n)
		}
	}
	m.tell("%s", out)
	return nil
}

var itemForm = regexp.MustCompile(`^(FLAGS|UID|RFC822\.SIZE|INTERNALDATE|BODYSTRUCTURE|BODY(\.PEEK)?\[(HEADER|TEXT|[1-9][0-9]*(\.[1-9][0-9]*)*)?\])$`)

func (m *second) fetch(set []api.Range, asked []string) error {
	reads := false
	for i := range asked {
		asked[i] = strings.ToUpper(asked[i])
		if !itemForm.MatchString(asked[i]) {
			return errBad
		}
		reads = reads || strings.HasPrefix(asked[i], "BODY[")
	}
	if len(asked) == 0 {
		return errBad
	}
	b := m.box()
	if b == nil {
		return api.ErrMissing
	}
	if m.uid && !slices.Contains(asked, "UID") {
		asked = append(asked, "UID")
	}
	for _, i := range m.meant(set) {
		uid := m.seen[i].UID
		if reads && !m.read && b.Flag(uid, box.More, []string{`\Seen`}) != nil {
			return api.ErrLimit
		}
		l, _ := m.has(uid)
		var out []string
		for _, s := range asked {
			out = append(out, itemText(l, s))
		}
		m.tell("%d FETCH (%s)", i+1, strings.Join(out, " "))
	}
	return nil
}

func itemText(l api.Letter, s string) string {
	switch s {
	case "FLAGS":
		return "FLAGS " + flags.Print(l.Flags)
	case "UID":
		return fmt.Sprint("UID ", l.UID)
	case "RFC822.SIZE":
		return fmt.Sprint("RFC822.SIZE ", len(l.Text))
	case "INTERNALDATE":
		return fmt.Sprint("INTERNALDATE ", l.Day)
	case "BODYSTRUCTURE":
		p, err := mime.Parse(l.Text)
		if err != nil {
			return "BODYSTRUCTURE NIL"
		}
		return "BODYSTRUCTURE " + mime.Print(p)
	}
	s = strings.Replace(s, ".PEEK", "", 1)
	text, ok := bodyText(l.Text, s[len("BODY["):len(s)-1])
	if !ok {
		return s + " NIL"
	}
	return fmt.Sprintf("%s {%d}\r\n%s", s, len(text), text)
}

func bodyText(text, part string) (string, bool) {
	top, rest := head.Split(text)
	if part == "" || part == "HEADER" || part == "TEXT" {
		return map[string]string{"": text, "HEADER": top, "TEXT": rest}[part], true
	}
	var path []int
	for _, s := range strings.Split(part, ".") {
		n := 0
		if _, err := fmt.Sscan(s, &n); err != nil {
			return "", false
		}
		path = append(path, n)
	}
	p, err := mime.Parse(text)
	if err != nil {
		return "", false
	}
	p, ok := mime.Find(p, path)
	return text[p.From:p.To], ok
}

func (m *second) store(set []api.Range, word string, noted []string) error {
	what, ok := map[string]int{"FLAGS": box.Put, "+FLAGS": box.More, "-FLAGS": box.Less}[strings.TrimSuffix(word, ".SILENT")]
	if !ok {
		return errBad
	}
	if err := m.refused(); err != nil {
		return err
	}
	for _, i := range m.meant(set) {
		if err := m.box().Flag(m.seen[i].UID, what, noted); err != nil {
			return err
		}
		l, _ := m.has(m.seen[i].UID)
		m.seen[i].Flags = l.Flags
		end := ""
		if m.uid {
			end = fmt.Sprint(" UID ", l.UID)
		}
		if !strings.HasSuffix(word, ".SILENT") {
			m.tell("%d FETCH (FLAGS %s%s)", i+1, flags.Print(l.Flags), end)
		}
	}
	return nil
}

func (m *second) copy(set []api.Range, asked string) error {
	name, err := utf7.Decode(asked)
	if err != nil {
		return errBad
	}
	if m.box() == nil {
		return api.ErrMissing
	}
	to, err := m.h.Get(name)
	if err != nil {
		return err
	}
	var letters []api.Letter
	for _, i := range m.meant(set) {
		l, _ := m.has(m.seen[i].UID)
		letters = append(letters, l)
	}
	if len(to.Letters)+len(letters) > api.MaxLetters || to.Next+len(letters) > api.MaxNumber {
		return api.ErrFull
	}
	var from, now []int
	for _, l := range letters {
		uid, err := to.Append(l.Flags, l.Day, l.Text)
		if err != nil {
			return err
		}
		from, now = append(from, l.UID), append(now, uid)
	}
	if len(letters) > 0 {
		a, _ := seq.Print(seq.Of(from))
		b, _ := seq.Print(seq.Of(now))
		m.tell("OK [COPYUID %d %s %s]", to.Valid, a, b)
	}
	return nil
}

// Drawn commands.

// drawer draws parts of commands.
type drawer struct{ *rand.Rand }

func (d drawer) of(l ...string) string { return l[d.Intn(len(l))] }

// some are some of what a function tells, at least so many, with blanks between.
func (d drawer) some(least int, one func() string) string {
	var out []string
	for range least + d.Intn(3) {
		out = append(out, one())
	}
	return strings.Join(out, " ")
}

func (d drawer) box() string {
	return d.of("inbox", "INBOX", "inbox", "Inbox", "a", "a/b", "a/b/c", "b", `"a b"`, "&AOk-", "inbox/x", "a//b", "&", "nowhere", "*", `""`)
}

func (d drawer) number() string {
	return d.of("1", "2", "3", "4", "5", "7", "*", "*", "9", "12", "60", "2147483647")
}

func (d drawer) set() string {
	out := d.number()
	for range d.Intn(3) {
		out += d.of(":", ",") + d.number()
	}
	return d.of(out, out, out, "1:*", "1:*", "x", "0", "1,", `"1"`)
}

func (d drawer) part() string {
	return d.of("", "HEADER", "TEXT", "text", "1", "2", "3", "1.1", "3.1", "3.2", "2.1", "1.1.1", "99999999999999999999", "0", "x", "1.", "01")
}

func (d drawer) item() string {
	return d.of("FLAGS", "UID", "RFC822.SIZE", "internaldate", "BODYSTRUCTURE", "BODY["+d.part()+"]", "BODY.PEEK["+d.part()+"]", "body.peek["+d.part()+"]", "FLAGS", "uid", "X")
}

func (d drawer) flag() string {
	return d.of(`\Seen`, `\Deleted`, `\deleted`, `\Draft`, `\Flagged`, "work", "play", "a", "b", "c", "d", "e", "f", "g", "h", "i", "j", `\Nope`, "a-b", `"x"`, "xxxxxxxxxxxxxxxxxxxxx")
}

func (d drawer) key() string {
	return d.of("ALL", "SEEN", "UNSEEN", "DELETED", "KEYWORD work", "NOT DELETED", "OR SEEN DRAFT", d.set(), "UID "+d.set(), "TEXT a", "BODY o", "SUBJECT a", "(SEEN "+d.set()+")", "SINCE 3", "LARGER 5", "x", "NOT", "()")
}

func (d drawer) text() string {
	return d.of("x", `""`, `"Subject: a"`, "{14}\r\nSubject: a\r\n\r\n", "{16}\r\n"+wired("Subject: a||one")+"x", fmt.Sprintf("{%d}\r\n%s", len(wired(parted)), wired(parted)), "{2001}\r\n"+strings.Repeat("x", 2001), `"\\"`)
}

func (d drawer) day() string {
	return d.of("", "", " 0", " 3", " 7", " 2147483648", " 07", " -1", " x")
}

func (d drawer) list(least int, one func() string) string {
	l := d.some(least, one)
	return d.of(l, "("+l+")", "("+l+")")
}

// ofBox draws a command that asks of the box that is chosen, behind UID perhaps.
func (d drawer) ofBox() string {
	what := d.of("FLAGS", "+FLAGS", "+FLAGS", "-FLAGS", "+flags.silent", "FLAGS.SILENT", "-FLAGS.SILENT", "X")
	return d.of("SEARCH "+d.some(1, d.key), "FETCH "+d.set()+" "+d.list(1, d.item), "FETCH "+d.set()+" "+d.list(1, d.item), "STORE "+d.set()+" "+what+" "+d.list(0, d.flag), "STORE "+d.set()+" +FLAGS (\\Deleted)", "COPY "+d.set()+" "+d.box(), "EXPUNGE", "EXPUNGE "+d.set())
}

// command draws one.
func (d drawer) command() string {
	switch d.Intn(12) {
	case 0, 1, 2:
		return d.ofBox()
	case 3, 4, 5:
		return d.of("UID ", "UID ", "uid ") + d.ofBox()
	case 6:
		return d.of("SELECT ", "EXAMINE ") + d.box()
	case 7:
		return "APPEND " + d.box() + d.of("", " ("+d.some(0, d.flag)+")") + d.day() + " " + d.text()
	case 8:
		return "APPEND inbox " + d.text()
	case 9:
		return d.of("CREATE ", "DELETE ", "SUBSCRIBE ", "UNSUBSCRIBE ", "RENAME "+d.box()+" ", "SELECT inbox"+d.of("", "", "x ")) + d.box()
	case 10:
		return d.of("LIST ", "LSUB ") + d.of(`""`, "a", "in", "*", "%") + " " + d.of("*", "%", "/*", `""`, "b", "BOX")
	}
	word := func() string {
		return d.of("MESSAGES", "UIDNEXT", "UIDVALIDITY", "UNSEEN", "messages", "unseen", "X")
	}
	return d.of("NOOP", "NOOP", "CHECK", "CLOSE", "CAPABILITY", "EXPUNGE", "x", "", "LOGIN me letter", "LOGIN me x", "UID", "STATUS "+d.box()+" ("+d.some(1, word)+")", "STATUS "+d.box()+" "+d.of("()", "MESSAGES", "(MESSAGES UNSEEN)"))
}

// spoilt is a command of which perhaps a part is left out, or one is put in.
func (d drawer) spoilt(c string) string {
	if d.Intn(12) > 0 || strings.Contains(c, "{") {
		return c
	}
	l := strings.Split(c, " ")
	i := d.Intn(len(l) + 1)
	if d.Intn(2) == 0 {
		return strings.Join(slices.Insert(l, i, d.of("x", "()", "(x)", `""`, "1", "inbox", "((x))", "(", ")")), " ")
	}
	return strings.Join(slices.Delete(l, max(0, i-1), max(0, i-1)+1), " ")
}

// withoutWaits is what is told but for + go.
func withoutWaits(s string) string {
	for strings.HasPrefix(s, "+ go\r\n") {
		s = s[len("+ go\r\n"):]
	}
	return s
}

// TestDrawnTalks: three sessions in a house tell what the second reading tells, and leave the house as it does.
func TestDrawnTalks(t *testing.T) {
	d := drawer{rand.New(rand.NewSource(11))}
	endings := map[string]int{}
	for range 400 {
		h, g := house.New(), house.New()
		var ours []*session.Session
		var theirs []*second
		for range 3 {
			s, err := session.New(h)
			if err != nil {
				t.Fatal(err)
			}
			ours, theirs = append(ours, s), append(theirs, &second{h: g, fresh: true})
		}
		var talk []string
		for turn := range 120 {
			who := d.Intn(len(ours))
			c := "t " + d.spoilt(d.command()) + "\r\n"
			if turn < 6 || d.Intn(25) == 0 {
				who = turn % 3
				c = d.of("t LOGIN me letter\r\n", "t LOGIN me letter\r\n", "t SELECT inbox\r\n")
			}
			talk = append(talk, fmt.Sprintf("%d: %.80q", who, c))
			got, want := withoutWaits(ours[who].Feed(c)), theirs[who].answer(c)
			if got != want {
				t.Fatalf("%s\n tells %q\n   not %q", strings.Join(talk, "\n"), got, want)
			}
			if a, b := fmt.Sprint(h.Save()), fmt.Sprint(g.Save()); a != b {
				t.Fatalf("%s\n leaves %s\n    not %s", strings.Join(talk, "\n"), a, b)
			}
			endings[got[strings.LastIndex(got, "\nt")+1:]]++
		}
	}
	// That the talks get about is seen by how many ended each way.
	for _, end := range []string{"t OK\r\n", "t NO 1\r\n", "t NO 2\r\n", "t NO 3\r\n", "t NO 4\r\n", "t NO 6\r\n", "t NO 7\r\n", "t NO 9\r\n", "t NO 13\r\n", "t BAD 3\r\n"} {
		if endings[end] < 5 {
			t.Errorf("%q: %d", end, endings[end])
		}
	}
}

// What is there is seen by all: when all were told, they see the same.
func TestAllSeeTheSame(t *testing.T) {
	d := drawer{rand.New(rand.NewSource(12))}
	for range 150 {
		h := house.New()
		var all []*session.Session
		for range 3 {
			s, err := session.New(h)
			if err != nil {
				t.Fatal(err)
			}
			s.Feed(wired("a LOGIN me letter|b SELECT inbox|"))
			all = append(all, s)
		}
		for range 60 {
			c := d.of(d.ofBox(), "UID "+d.ofBox(), "APPEND inbox "+d.text(), "NOOP")
			all[d.Intn(len(all))].Feed("t " + c + "\r\n")
		}
		var told []string
		for _, s := range all {
			s.Feed("t NOOP\r\n")
			told = append(told, s.Feed("t FETCH 1:* (UID FLAGS BODY.PEEK[])\r\n"))
		}
		if told[0] != told[1] || told[1] != told[2] {
			t.Fatalf("%q", told)
		}
	}
}

// A stranger changes nothing, whatever is said.
func TestStrangerChangesNothing(t *testing.T) {
	d := drawer{rand.New(rand.NewSource(13))}
	k := newTalk(t)
	k.fill("INBOX", "1", "2")
	k.flag(2, `\Deleted`)
	before := k.saved()
	for range 3000 {
		c := d.spoilt(d.command())
		if strings.Contains(strings.ToUpper(c), "LOGIN") {
			continue
		}
		k.of("a").Feed("t " + c + "\r\n")
	}
	if k.saved() != before || k.of("a").Over() {
		t.Error("a stranger changed something")
	}
}

// FuzzFeed: any bytes, in pieces or at once, are told the same, and leave a house that may be.
func FuzzFeed(f *testing.F) {
	says, _ := said(longTalk())
	f.Add(wired(says), 10)
	f.Add("a LOGIN {2}\r\nme {9999}\r\n", 3)
	d := drawer{rand.New(rand.NewSource(14))}
	for i := range 60 {
		s := "a LOGIN me letter\r\nb SELECT inbox\r\n"
		for range 20 {
			s += "t " + d.spoilt(d.command()) + "\r\n"
		}
		f.Add(s, 1+i%7)
	}
	f.Fuzz(func(t *testing.T, s string, size int) {
		size = max(1, size)
		h, g := house.New(), house.New()
		a, _ := session.New(h)
		b, _ := session.New(g)
		var told strings.Builder
		for rest := s; rest != ""; {
			n := min(size, len(rest))
			told.WriteString(a.Feed(rest[:n]))
			rest = rest[n:]
		}
		if got := b.Feed(s); got != told.String() || a.Over() != b.Over() {
			t.Errorf("at once %q, in pieces %q", got, told.String())
		}
		if !house.Right(h.Save()) || fmt.Sprint(h.Save()) != fmt.Sprint(g.Save()) {
			t.Error("the houses differ")
		}
	})
}
