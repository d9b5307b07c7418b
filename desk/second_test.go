package desk_test

import (
	"fmt"
	"math/rand"
	"reflect"
	"regexp"
	"strings"
	"testing"

	"letterbox/api"
	"letterbox/archive"
	"letterbox/desk"
	"letterbox/house"
	"letterbox/mime"
	"letterbox/seq"
	"letterbox/session"
	"letterbox/utf7"
)

// A second reading of the document: the forms of lines are patterns, and houses are kept as what Save tells.

const number = `(-?[1-9][0-9]*|0)`

// forms are how lines look whose words have one blank between; (?s), since . may be any byte.
var forms = []*regexp.Regexp{
	regexp.MustCompile(`(?s)^(open|names|keep|help)$`),
	regexp.MustCompile(`(?s)^(feed|line) ` + number + `(?: (.*))?$`),
	regexp.MustCompile(`(?s)^(encode|decode|parts|text)(?: (.*))?$`),
	regexp.MustCompile(`(?s)^(set) ([^ ]+)$`),
	regexp.MustCompile(`(?s)^(has) ([^ ]+) ` + number + ` ` + number + `$`),
	regexp.MustCompile(`(?s)^(same|restore) ` + number + `$`),
}

var blanks = regexp.MustCompile(` +`)

type second struct {
	h    *house.House
	who  []*session.Session
	kept []house.Saved
}

// secondSession is what Session tells.
func secondSession(text string) string {
	if len(text) > 20000 {
		return "error 4\n"
	}
	m := &second{h: house.New()}
	out := ""
	for _, line := range strings.Split(strings.TrimSuffix(text, "\n"), "\n") {
		told, err := m.answer(strings.Trim(blanks.ReplaceAllString(line, " "), " "))
		if err != nil {
			told = fmt.Sprint("error ", int(api.Tell(err)))
		}
		out += told + "\n"
	}
	return out
}

// answer is what is told of a line whose words have one blank between.
func (m *second) answer(line string) (string, error) {
	if line == "" {
		return "ok", nil
	}
	for _, f := range forms {
		if l := f.FindStringSubmatch(line); l != nil {
			return m.do(l[1], l[2:])
		}
	}
	return "", api.ErrForm
}

// whole64 reads a number that has the form of one.
func whole64(s string) (n int, err error) {
	if _, e := fmt.Sscan(s, &n); e != nil {
		return 0, api.ErrForm
	}
	return n, nil
}

func (m *second) do(word string, l []string) (string, error) {
	switch word {
	case "open":
		if len(m.who) == 8 {
			return "", api.ErrFull
		}
		s, err := session.New(m.h)
		m.who = append(m.who, s)
		return fmt.Sprint("open ", len(m.who)-1), err
	case "names":
		return "names " + strings.Join(m.h.Names(), " "), nil
	case "help":
		return "decode encode feed has help keep line names open parts restore same set text", nil
	case "feed", "line":
		return m.feed(word, l[0], l[1])
	case "keep", "same", "restore":
		return m.keeping(word, l)
	}
	return plainWord(word, l)
}

func crlf(s string) string { return strings.Join(strings.Split(s, "|"), "\r\n") }

// secondShown is a text, SHOWN.
func secondShown(s string) string {
	out := `"`
	for _, b := range []byte(s) {
		out += byteShown(b)
	}
	return out + `"`
}

// plainWord does what hangs on no house.
func plainWord(word string, l []string) (string, error) {
	switch word {
	case "encode":
		s, err := utf7.Encode(l[0])
		return "encode " + s, err
	case "decode":
		s, err := utf7.Decode(l[0])
		return "decode " + secondShown(s), err
	case "parts":
		p, err := mime.Parse(crlf(l[0]))
		return mime.Print(p), err
	case "text":
		return secondShown(crlf(l[0])), nil
	case "set":
		r, err := seq.Parse(l[0])
		if err != nil {
			return "", err
		}
		return seq.Print(r)
	}
	n, err := whole64(l[1])
	if err != nil {
		return "", err
	}
	greatest, err := whole64(l[2])
	if err != nil {
		return "", err
	}
	r, err := seq.Parse(l[0])
	return fmt.Sprint(seq.Has(r, n, greatest)), err
}

func (m *second) feed(word, which, said string) (string, error) {
	n, err := whole64(which)
	if err != nil {
		return "", err
	}
	if n < 0 || n >= len(m.who) {
		return "", api.ErrMissing
	}
	said = crlf(said)
	if word == "line" {
		said += "\r\n"
	}
	return word + " " + secondShown(m.who[n].Feed(said)), nil
}

func (m *second) keeping(word string, l []string) (string, error) {
	if word == "keep" {
		if len(m.kept) == 8 {
			return "", api.ErrFull
		}
		s, err := archive.Full(m.h.Save())
		m.kept = append(m.kept, m.h.Save())
		return fmt.Sprint("keep ", len(m.kept)-1, " ", len(s)), err
	}
	n, err := whole64(l[0])
	if err != nil {
		return "", err
	}
	if n < 0 || n >= len(m.kept) {
		return "", api.ErrMissing
	}
	if word == "restore" {
		m.h, err = house.Load(m.kept[n])
		m.who = nil
		return "restore", err
	}
	now := m.h.Save()
	d, err := archive.Diff(m.kept[n], now)
	if err != nil {
		return "", err
	}
	after, err := archive.Apply(m.kept[n], d)
	return fmt.Sprint(len(d), " ", err == nil && reflect.DeepEqual(normal(after), normal(now))), nil
}

// normal has no empty list that is not nil.
func normal(s house.Saved) house.Saved {
	if len(s.Wants) == 0 {
		s.Wants = nil
	}
	boxes := s.Boxes
	s.Boxes = nil
	for _, b := range boxes {
		letters := b.Letters
		b.Letters = nil
		for _, l := range letters {
			if len(l.Flags) == 0 {
				l.Flags = nil
			}
			b.Letters = append(b.Letters, l)
		}
		s.Boxes = append(s.Boxes, b)
	}
	return s
}

// of draws one of some.
func of(r *rand.Rand, l ...string) string { return l[r.Intn(len(l))] }

// drawnCommand draws a command of a session.
func drawnCommand(r *rand.Rand) string {
	box := func() string { return of(r, "inbox", "inbox", "INBOX/x", "a", "a/b", "b", `"a b"`, "&AOk-", "&") }
	set := func() string { return of(r, "1", "2", "*", "1:2", "1:*", "1,3", "0") }
	flag := func() string { return of(r, `\Seen`, `(\Deleted)`, `(\Deleted work)`, "()", "x", `\Nope`) }
	return of(r,
		"NOOP", "CAPABILITY", "CHECK", "CLOSE", "EXPUNGE", "LOGOUT", "x", "",
		"LOGIN me letter", "LOGIN me x", "CREATE "+box(), "CREATE "+box(), "DELETE "+box(), "RENAME "+box()+" "+box(), "SUBSCRIBE "+box(), "UNSUBSCRIBE "+box(),
		`LIST "" *`, `LSUB "" %`, "STATUS "+box()+" (MESSAGES UIDNEXT UNSEEN)", "APPEND "+box()+" x", "APPEND "+box()+" ("+of(r, `\Seen`, "work")+") 7 {4}|a|%", "APPEND inbox {3}",
		"SELECT "+box(), "SELECT inbox", "EXAMINE "+box(), "SEARCH "+of(r, "ALL", "UNSEEN", "DELETED", "1:2", "x"), "UID SEARCH ALL",
		"FETCH "+set()+" "+of(r, "FLAGS", "BODY[]", "(UID BODYSTRUCTURE)", "BODY.PEEK[TEXT]", "X"), "UID FETCH "+set()+" FLAGS", "STORE "+set()+" "+of(r, "", "+", "-")+"FLAGS"+of(r, "", ".SILENT")+" "+flag(), "COPY "+set()+" "+box(), "UID EXPUNGE "+set())
}

// drawnNumber draws what stands for a number.
func drawnNumber(r *rand.Rand) string {
	if r.Intn(4) > 0 {
		return of(r, "0", "0", "1", "2")
	}
	return of(r, append(append([]string{"", "3", "7", "8"}, numbers...), noNumbers...)...)
}

// drawnWords draws words, or what looks like some.
func drawnWords(r *rand.Rand) string {
	out := ""
	for range r.Intn(5) {
		out += of(r, "a", "b|", "|", "||", "%", `"`, "&AOk-", "&", "é", "\xff", "\t", "\x00", " ", "  ", " ", "1:3", "*", "1,2", "0", "-1", "Content-Type:", "multipart/x;", "boundary=b||", "--b|", "--b--", "open", "x y", "\r")
	}
	return out
}

// drawnLine draws a line.
func drawnLine(r *rand.Rand) string {
	words := []string{"open", "feed", "line", "names", "encode", "decode", "set", "has", "parts", "keep", "same", "restore", "text", "help", "x", ""}
	switch r.Intn(8) {
	case 0:
		return of(r, words...) + of(r, " ", " ", "", "  ") + drawnWords(r)
	case 1:
		return of(r, "same ", "restore ", "feed ", "line ") + drawnNumber(r) + of(r, "", "", " ", " x")
	case 2:
		return "has " + of(r, "1:3", "*", "2:*", "x", "0", strings.Repeat("1,", 20)+"1") + " " + drawnNumber(r) + " " + drawnNumber(r)
	case 3:
		return of(r, "open", "keep", "names", "keep", "same 0", "same 1", "restore 0", "restore 1", "names")
	case 4:
		return "feed " + of(r, "0", "1") + " " + of(r, "c", "") + " " + drawnCommand(r) + of(r, "", "|", "|c ")
	}
	return "line " + of(r, "0", "1", "2") + " c " + drawnCommand(r)
}

// drawnText draws a text.
func drawnText(r *rand.Rand) string {
	out := of(r, "", "open\nopen\nline 0 a LOGIN me letter\nline 1 a LOGIN me letter\nline 0 b SELECT inbox\nkeep\n", strings.Repeat("open\nkeep\n", 7))
	for range r.Intn(60) {
		out += of(r, "", "", "", " ", "   ") + drawnLine(r) + of(r, "", "", "", " ", "  ") + of(r, "\n", "\n", "\n", "\n\n")
	}
	return out
}

// holds says that a text is told what the second reading tells.
func holds(t *testing.T, text string) {
	t.Helper()
	got, want := desk.Session(text), secondSession(text)
	if got == want {
		return
	}
	l, m := strings.Split(got, "\n"), strings.Split(want, "\n")
	for i := range min(len(l), len(m)) {
		if l[i] != m[i] {
			t.Fatalf("%.2000q\n line %d\n tells %.900q\n   not %.900q", text, i, l[i], m[i])
		}
	}
	t.Fatalf("%.2000q\n tells %d lines\n   not %d", text, len(l), len(m))
}

func TestDrawnTexts(t *testing.T) {
	r := rand.New(rand.NewSource(12))
	told := map[string]int{}
	for range 3000 {
		text := drawnText(r)
		holds(t, text)
		for _, line := range strings.Split(desk.Session(text), "\n") {
			word, _, _ := strings.Cut(line, " ")
			if word == "error" {
				word = line
			}
			told[word]++
		}
	}
	for _, w := range []string{"ok", argError, formError, limitError, missingError, fullError, "open", "feed", "line", "names", "encode", "decode", "true", "false", "keep", "restore"} {
		if told[w] < 20 {
			t.Errorf("%s was told %d times only", w, told[w])
		}
	}
}

// What is told of some lines hangs on no line behind them.
func TestLineByLine(t *testing.T) {
	r := rand.New(rand.NewSource(121))
	for range 200 {
		lines := strings.Split(drawnText(r), "\n")
		all := desk.Session(strings.Join(lines, "\n") + "\n")
		for i := range lines {
			if got := desk.Session(strings.Join(lines[:i+1], "\n") + "\n"); !strings.HasPrefix(all, got) || strings.Count(got, "\n") != i+1 {
				t.Fatalf("%.2000q: of %d lines %.900q", lines, i+1, got)
			}
		}
	}
}

func FuzzSession(f *testing.F) {
	r := rand.New(rand.NewSource(122))
	for range 50 {
		f.Add(drawnText(r))
	}
	for _, l := range proper {
		f.Add(l.line)
	}
	for _, s := range []string{"", "\n", "\n\n", " ", strings.Repeat("x", api.MaxText+1), strings.Join(improper, "\n"), "text \xff\xfe|%", "has * 1 9223372036854775808"} {
		f.Add(s)
	}
	f.Fuzz(holds)
}
