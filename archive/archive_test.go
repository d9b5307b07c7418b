package archive

import (
	"errors"
	"fmt"
	"math"
	"math/rand"
	"reflect"
	"slices"
	"strconv"
	"strings"
	"testing"
	"time"

	"letterbox/api"
	"letterbox/box"
	"letterbox/flags"
	"letterbox/house"
)

// isPlain says whether an error is just that Errno, with no place.
func isPlain(err error, want api.Errno) bool {
	var at *api.At
	return api.Tell(err) == want && !errors.As(err, &at)
}

// shown is all that is saved, as a text.
func shown(s house.Saved) string {
	var out strings.Builder
	fmt.Fprintf(&out, "%d %q %q", s.Next, s.Wants, s.Names)
	for _, b := range s.Boxes {
		fmt.Fprintf(&out, " {%d %d", b.Valid, b.Next)
		for _, l := range b.Letters {
			fmt.Fprintf(&out, " [%d %q %d %q]", l.UID, l.Flags, l.Day, l.Text)
		}
		out.WriteString("}")
	}
	return out.String()
}

// isNone says whether nothing is told.
func isNone(s house.Saved) bool { return reflect.DeepEqual(s, house.Saved{}) }

// copied shares nothing with what it is a copy of.
func copied(s house.Saved) house.Saved {
	s.Names, s.Wants, s.Boxes = slices.Clone(s.Names), slices.Clone(s.Wants), slices.Clone(s.Boxes)
	for i := range s.Boxes {
		s.Boxes[i].Letters = slices.Clone(s.Boxes[i].Letters)
		for j := range s.Boxes[i].Letters {
			l := &s.Boxes[i].Letters[j]
			l.Flags = slices.Clone(l.Flags)
		}
	}
	return s
}

// A piece is a number, with what ends it, or something else that is written at once.
type piece struct {
	text     string
	isNumber bool
}

// A second writer: pieces, whatever may be.
type pieces []piece

func (p *pieces) number(n int) { *p = append(*p, piece{fmt.Sprintf("%d;", n), true}) }

func (p *pieces) text(s string) {
	*p = append(*p, piece{fmt.Sprintf("%d:", len(s)), true}, piece{s, false})
}

func (p *pieces) texts(l []string) {
	p.number(len(l))
	for _, s := range l {
		p.text(s)
	}
}

func (p *pieces) letters(l []api.Letter) {
	p.number(len(l))
	for _, x := range l {
		p.number(x.UID)
		p.texts(x.Flags)
		p.number(x.Day)
		p.text(x.Text)
	}
}

func (p pieces) String() string {
	var out strings.Builder
	for _, x := range p {
		out.WriteString(x.text)
	}
	return out.String()
}

// secondFull is what Full writes, by a second reading of the document.
func secondFull(s house.Saved) pieces {
	p := pieces{{"F", false}}
	p.number(s.Next)
	p.texts(s.Wants)
	p.texts(s.Names)
	for _, b := range s.Boxes {
		p.number(b.Valid)
		p.number(b.Next)
		p.letters(b.Letters)
	}
	return p
}

// hasJust says whether a house's box of that number has just that letter.
func hasJust(s house.Saved, valid int, l api.Letter) bool {
	for _, b := range s.Boxes {
		for _, x := range b.Letters {
			if b.Valid == valid && x.UID == l.UID && fmt.Sprintf("%q", x.Flags) == fmt.Sprintf("%q", l.Flags) && x.Day == l.Day && x.Text == l.Text {
				return true
			}
		}
	}
	return false
}

// secondDiff is what Diff writes, by a second reading of the document.
func secondDiff(a, b house.Saved) pieces {
	p := pieces{{"D", false}}
	p.number(b.Next)
	p.texts(b.Wants)
	p.texts(b.Names)
	for _, x := range b.Boxes {
		p.number(x.Valid)
		p.number(x.Next)
		var uids []int
		var others []api.Letter
		for _, l := range x.Letters {
			if hasJust(a, x.Valid, l) {
				uids = append(uids, l.UID)
			} else {
				others = append(others, l)
			}
		}
		p.number(len(uids))
		for _, n := range uids {
			p.number(n)
		}
		p.letters(others)
	}
	return p
}

// A second reader, that looks at each byte: it throws itself at what is wrong.
type strict struct{ rest string }

func (r *strict) must(ok bool) {
	if !ok {
		panic(r)
	}
}

func (r *strict) took(c byte) bool {
	if r.rest == "" || r.rest[0] != c {
		return false
	}
	r.rest = r.rest[1:]
	return true
}

func (r *strict) until(end byte) int {
	n, digits := 0, 0
	for !r.took(end) {
		r.must(r.rest != "" && r.rest[0] >= '0' && r.rest[0] <= '9' && (digits == 0 || n > 0))
		n = 10*n + int(r.rest[0]-'0')
		r.must(n <= api.MaxNumber)
		r.rest = r.rest[1:]
		digits++
	}
	r.must(digits > 0)
	return n
}

func (r *strict) text() string {
	n := r.until(':')
	r.must(n <= len(r.rest))
	out := r.rest[:n]
	r.rest = r.rest[n:]
	return out
}

func (r *strict) texts() (out []string) {
	for range r.until(';') {
		out = append(out, r.text())
	}
	return out
}

func (r *strict) letters() (out []api.Letter) {
	for range r.until(';') {
		l := api.Letter{UID: r.until(';')}
		l.Flags = r.texts()
		l.Day = r.until(';')
		l.Text = r.text()
		out = append(out, l)
	}
	return out
}

// changes reads what changed in a box: UIDs that rise, and are there; letters that rise, and are not there just so.
func (r *strict) changes(a house.Saved, valid int) (out []api.Letter) {
	var old []api.Letter
	for _, b := range a.Boxes {
		if b.Valid == valid {
			old = b.Letters
		}
	}
	last := 0
	for range r.until(';') {
		uid := r.until(';')
		at := slices.IndexFunc(old, func(l api.Letter) bool { return l.UID == uid })
		r.must(uid > last && at >= 0)
		last = uid
		out = append(out, old[at])
	}
	last = 0
	for _, l := range r.letters() {
		r.must(l.UID > last && !hasJust(a, valid, l))
		last = l.UID
		at := 0
		for at < len(out) && out[at].UID < l.UID {
			at++
		}
		out = slices.Insert(out, at, l)
	}
	return out
}

// second reads bytes that begin so: of each box its letters by a function.
func second(s string, begin byte, letters func(r *strict, valid int) []api.Letter) (out house.Saved, ok bool) {
	r := &strict{s}
	defer func() {
		if x := recover(); x != nil {
			if x != any(r) {
				panic(x)
			}
			out, ok = house.Saved{}, false
		}
	}()
	r.must(r.took(begin))
	out.Next = r.until(';')
	out.Wants = r.texts()
	out.Names = r.texts()
	for range out.Names {
		b := box.Box{Valid: r.until(';')}
		b.Next = r.until(';')
		b.Letters = letters(r, b.Valid)
		out.Boxes = append(out.Boxes, b)
	}
	r.must(r.rest == "" && house.Right(out))
	return out, true
}

func secondRead(s string) (house.Saved, bool) {
	return second(s, 'F', func(r *strict, _ int) []api.Letter { return r.letters() })
}

func secondApply(a house.Saved, s string) (house.Saved, bool) {
	return second(s, 'D', func(r *strict, valid int) []api.Letter { return r.changes(a, valid) })
}

// checkFull holds Full against a second reading, and what it tells is read as it was: the text.
func checkFull(t *testing.T, s house.Saved) string {
	t.Helper()
	before := shown(s)
	got, err := Full(s)
	if !house.Right(s) {
		if got != "" || !isPlain(err, api.ErrArg) {
			t.Errorf("Full(%.999s) = %.99q, %v", before, got, err)
		}
		return ""
	}
	if want := secondFull(s).String(); got != want || err != nil {
		t.Errorf("Full(%.999s) = %.999q, %v, not %.999q", before, got, err, want)
	}
	if again, err := Read(got); err != nil || shown(again) != before {
		t.Errorf("Read(%.999q) = %.999s, %v, not %.999s", got, shown(again), err, before)
	}
	if shown(s) != before {
		t.Errorf("it is %.999s, not %.999s any more", shown(s), before)
	}
	return got
}

// checkRead holds Read against a second reading: whether it was read.
func checkRead(t *testing.T, s string) bool {
	t.Helper()
	got, err := Read(s)
	want, ok := secondRead(s)
	if !ok {
		if !isNone(got) || !isPlain(err, api.ErrForm) {
			t.Errorf("Read(%.999q) = %.999s, %v", s, shown(got), err)
		}
		return false
	}
	if err != nil || shown(got) != shown(want) {
		t.Errorf("Read(%.999q) = %.999s, %v, not %.999s", s, shown(got), err, shown(want))
	}
	if again, err := Full(got); again != s || err != nil {
		t.Errorf("%.999q is read, and Full is %.999q, %v", s, again, err)
	}
	return true
}

// checkDiff holds Diff against a second reading, and what it tells leads from one to the other: the text.
func checkDiff(t *testing.T, a, b house.Saved) string {
	t.Helper()
	was, now := shown(a), shown(b)
	got, err := Diff(a, b)
	if !house.Right(a) || !house.Right(b) {
		if got != "" || !isPlain(err, api.ErrArg) {
			t.Errorf("Diff(%.999s, %.999s) = %.99q, %v", was, now, got, err)
		}
		return ""
	}
	if want := secondDiff(a, b).String(); got != want || err != nil {
		t.Errorf("Diff(%.999s, %.999s) = %.999q, %v, not %.999q", was, now, got, err, want)
	}
	if again, err := Apply(a, got); err != nil || shown(again) != now {
		t.Errorf("Apply(%.999s, %.999q) = %.999s, %v, not %.999s", was, got, shown(again), err, now)
	}
	if shown(a) != was || shown(b) != now {
		t.Errorf("they are %.999s and %.999s, not %.999s and %.999s any more", shown(a), shown(b), was, now)
	}
	return got
}

// checkApply holds Apply against a second reading: whether it was taken.
func checkApply(t *testing.T, a house.Saved, s string) bool {
	t.Helper()
	was := shown(a)
	got, err := Apply(a, s)
	if shown(a) != was {
		t.Errorf("Apply(%.999q): it is %.999s, not %.999s any more", s, shown(a), was)
	}
	want, ok := secondApply(a, s)
	if !ok {
		if !isNone(got) || !isPlain(err, api.ErrForm) {
			t.Errorf("Apply(%.999s, %.999q) = %.999s, %v", was, s, shown(got), err)
		}
		return false
	}
	if err != nil || shown(got) != shown(want) {
		t.Errorf("Apply(%.999s, %.999q) = %.999s, %v, not %.999s", was, s, shown(got), err, shown(want))
	}
	if again, err := Diff(a, got); again != s || err != nil {
		t.Errorf("%.999q is taken, and Diff is %.999q, %v", s, again, err)
	}
	return true
}

// wrongRead is what Read must refuse.
func wrongRead(t *testing.T, what, s string) {
	t.Helper()
	if got, err := Read(s); !isNone(got) || !isPlain(err, api.ErrForm) {
		t.Errorf("%s: Read(%.999q) = %.999s, %v", what, s, shown(got), err)
	}
}

// wrongApply is what Apply must refuse, and which changes nothing.
func wrongApply(t *testing.T, what string, a house.Saved, s string) {
	t.Helper()
	was := shown(a)
	if got, err := Apply(a, s); !isNone(got) || !isPlain(err, api.ErrForm) {
		t.Errorf("%s: Apply(%.999q) = %.999s, %v", what, s, shown(got), err)
	}
	if shown(a) != was {
		t.Errorf("%s, refused, changed %.999s to %.999s", what, was, shown(a))
	}
}

// alone is a house of an empty INBOX.
func alone() house.Saved { return house.New().Save() }

// sample is a house with boxes in one another, letters, flags, and names that are wanted.
func sample() house.Saved {
	return house.Saved{
		Names: []string{"B", "INBOX", "INBOX/x", "a", "a/b", "é"},
		Boxes: []box.Box{
			{Valid: 5, Next: 1},
			{Valid: 1, Next: 12, Letters: []api.Letter{
				{UID: 2, Flags: []string{`\Seen`, "k"}, Day: 4, Text: "two"},
				{UID: 8, Text: ""},
				{UID: 11, Flags: []string{"work"}, Day: 10, Text: "1;2:F"},
			}},
			{Valid: 19, Next: 2},
			{Valid: 2, Next: 2, Letters: []api.Letter{{UID: 1, Flags: []string{`\Deleted`}, Day: api.MaxNumber, Text: "\x00\xff;\r\n"}}},
			{Valid: 7, Next: api.MaxNumber},
			{Valid: 3, Next: 100, Letters: []api.Letter{{UID: 10, Day: 1, Text: "ten"}, {UID: 99, Day: 2, Text: strings.Repeat("t", 10)}}},
		},
		Wants: []string{"INBOX", "INBOX/q", "a/b", "z/y/x"},
		Next:  20,
	}
}

// greatest is a house of which all is as much as may be.
func greatest(t testing.TB) house.Saved {
	t.Helper()
	var words []string
	for i := range api.MaxFlags {
		words = append(words, strings.Repeat("k", api.MaxKeyword-1)+string(rune('a'+i)))
	}
	set, err := flags.Set(words)
	if err != nil {
		t.Fatal(err)
	}
	s := house.Saved{Next: api.MaxNumber}
	for i := range api.MaxBoxes {
		b := box.Box{Valid: api.MaxNumber - 1 - i, Next: api.MaxNumber}
		for j := range api.MaxLetters {
			b.Letters = append(b.Letters, api.Letter{UID: api.MaxNumber - api.MaxLetters + j, Flags: set, Day: api.MaxNumber, Text: strings.Repeat(";", api.MaxMessage)})
		}
		n := "INBOX"
		if i > 0 {
			n = strings.Repeat("n", api.MaxName-2) + strconv.Itoa(10+i)
		}
		s.Names, s.Boxes = append(s.Names, n), append(s.Boxes, b)
	}
	for i := range 2 * api.MaxBoxes {
		s.Wants = append(s.Wants, strings.Repeat("w", api.MaxName-2)+strconv.Itoa(10+i))
	}
	if !house.Right(s) {
		t.Fatal("the greatest one is not Right")
	}
	return s
}

// TestFull: how houses are written (10.1).
func TestFull(t *testing.T) {
	inbox := func(b box.Box) house.Saved {
		return house.Saved{Names: []string{"INBOX"}, Boxes: []box.Box{b}, Next: 2}
	}
	for _, c := range []struct {
		what string
		s    house.Saved
		want string
	}{
		{"the document's example", alone(), "F2;0;1;5:INBOX1;1;0;"},
		{"a great Next", house.Saved{Names: []string{"INBOX"}, Boxes: []box.Box{{Valid: 1, Next: 1}}, Next: api.MaxNumber}, "F2147483647;0;1;5:INBOX1;1;0;"},
		{"a great Valid", house.Saved{Names: []string{"INBOX"}, Boxes: []box.Box{{Valid: 100, Next: 7}}, Next: 105}, "F105;0;1;5:INBOX100;7;0;"},
		{"a box's great Next", inbox(box.Box{Valid: 1, Next: api.MaxNumber}), "F2;0;1;5:INBOX1;2147483647;0;"},
		{"an empty letter", inbox(box.Box{Valid: 1, Next: 2, Letters: []api.Letter{{UID: 1}}}), "F2;0;1;5:INBOX1;2;1;1;0;0;0:"},
		{"a letter", inbox(box.Box{Valid: 1, Next: 12, Letters: []api.Letter{{UID: 11, Day: 20, Text: "hello"}}}), "F2;0;1;5:INBOX1;12;1;11;0;20;5:hello"},
		{"a flag", inbox(box.Box{Valid: 1, Next: 2, Letters: []api.Letter{{UID: 1, Flags: []string{`\Seen`}}}}), `F2;0;1;5:INBOX1;2;1;1;1;5:\Seen0;0:`},
		{"flags", inbox(box.Box{Valid: 1, Next: 2, Letters: []api.Letter{{UID: 1, Flags: []string{`\Seen`, `\Draft`, "k"}, Day: 3, Text: "x"}}}), `F2;0;1;5:INBOX1;2;1;1;3;5:\Seen6:\Draft1:k3;1:x`},
		{"letters", inbox(box.Box{Valid: 1, Next: 4, Letters: []api.Letter{{UID: 1, Text: "a"}, {UID: 3, Day: 1, Text: "b"}}}), "F2;0;1;5:INBOX1;4;2;1;0;0;1:a3;0;1;1:b"},
		{"a text like what is written", inbox(box.Box{Valid: 1, Next: 2, Letters: []api.Letter{{UID: 1, Text: "1;2:3;"}}}), "F2;0;1;5:INBOX1;2;1;1;0;0;6:1;2:3;"},
		{"a text of any bytes", inbox(box.Box{Valid: 1, Next: 2, Letters: []api.Letter{{UID: 1, Text: "\x00\xff\r\né"}}}), "F2;0;1;5:INBOX1;2;1;1;0;0;6:\x00\xff\r\né"},
		{"names that are wanted", house.Saved{Names: []string{"INBOX"}, Boxes: []box.Box{{Valid: 1, Next: 1}}, Wants: []string{"INBOX", "a/b", "é"}, Next: 2}, "F2;3;5:INBOX3:a/b2:é1;5:INBOX1;1;0;"},
		{"boxes", house.Saved{
			Names: []string{"A", "INBOX", "INBOX/é"},
			Boxes: []box.Box{{Valid: 9, Next: 3, Letters: []api.Letter{{UID: 2, Text: "t"}}}, {Valid: 1, Next: 1}, {Valid: 4, Next: 5}},
			Next:  10,
		}, "F10;0;3;1:A5:INBOX8:INBOX/é9;3;1;2;0;0;1:t1;1;0;4;5;0;"},
		{"the sample", sample(), "F20;4;5:INBOX7:INBOX/q3:a/b5:z/y/x" +
			"6;1:B5:INBOX7:INBOX/x1:a3:a/b2:é" +
			"5;1;0;" +
			`1;12;3;2;2;5:\Seen1:k4;3:two8;0;0;0:11;1;4:work10;5:1;2:F` +
			"19;2;0;" +
			"2;2;1;1;1;8:\\Deleted2147483647;5:\x00\xff;\r\n" +
			"7;2147483647;0;" +
			"3;100;2;10;0;1;3:ten99;0;2;10:tttttttttt"},
	} {
		if got, err := Full(c.s); got != c.want || err != nil {
			t.Errorf("%s: Full = %q, %v, not %q", c.what, got, err, c.want)
		}
		if got, err := Read(c.want); err != nil || shown(got) != shown(c.s) {
			t.Errorf("%s: Read(%q) = %s, %v", c.what, c.want, shown(got), err)
		}
		checkFull(t, c.s)
	}
}

// TestGreatest: all is as much as may be, and one more of it is too much (10.1, 10.2).
func TestGreatest(t *testing.T) {
	s := greatest(t)
	text := checkFull(t, s)
	if !checkRead(t, text) {
		t.Error("it is not read")
	}
	for _, a := range []house.Saved{alone(), s} {
		if !checkApply(t, a, checkDiff(t, a, s)) {
			t.Error("it is not taken")
		}
	}
	checkDiff(t, s, alone())
	for _, n := range []int{1, 2, len(text) / 2, len(text) - 1} {
		wrongRead(t, "a beginning", text[:n])
	}
	more := func(what string, do func(s *house.Saved)) {
		s := copied(s)
		do(&s)
		checkFull(t, s)
		wrongRead(t, what, secondFull(s).String())
		wrongApply(t, what, alone(), secondDiff(alone(), s).String())
	}
	more("a box more", func(s *house.Saved) {
		s.Names, s.Boxes = append(s.Names, "o"), append(s.Boxes, box.Box{Valid: 1, Next: 1})
	})
	more("a want more", func(s *house.Saved) { s.Wants = append(s.Wants, "x") })
	more("a letter more", func(s *house.Saved) {
		s.Boxes[0].Letters = slices.Insert(s.Boxes[0].Letters, 0, api.Letter{UID: 1})
	})
	more("a flag more", func(s *house.Saved) {
		l := &s.Boxes[0].Letters[0]
		l.Flags = append(l.Flags, "z")
	})
	more("a longer flag", func(s *house.Saved) { s.Boxes[0].Letters[0].Flags[11] += "z" })
	more("a longer text", func(s *house.Saved) { s.Boxes[29].Letters[59].Text += "." })
	more("a longer name", func(s *house.Saved) { s.Names[29] += "n" })
	more("a longer want", func(s *house.Saved) { s.Wants[59] += "w" })
	more("a greater day", func(s *house.Saved) { s.Boxes[3].Letters[7].Day++ })
	more("a greater Next", func(s *house.Saved) { s.Next++ })
	more("a greater Next of a box", func(s *house.Saved) { s.Boxes[29].Next++ })
	more("a greater Valid", func(s *house.Saved) { s.Boxes[0].Valid++ })
	more("a greater UID", func(s *house.Saved) { s.Boxes[29].Letters[59].UID++ })
}

// wrongs are ways in which the sample may be made not Right.
var wrongs = []struct {
	what string
	do   func(s *house.Saved)
}{
	{"nothing at all", func(s *house.Saved) { *s = house.Saved{} }},
	{"nothing but Next", func(s *house.Saved) { *s = house.Saved{Next: 1} }},
	{"a box less", func(s *house.Saved) { s.Boxes = s.Boxes[:5] }},
	{"a box more", func(s *house.Saved) { s.Boxes = append(s.Boxes, box.Box{Valid: 8, Next: 1}) }},
	{"a name less", func(s *house.Saved) { s.Names = s.Names[:5] }},
	{"a name more", func(s *house.Saved) { s.Names = append(s.Names, "ê") }},
	{"no INBOX", func(s *house.Saved) { s.Names[1], s.Names[2] = "INBO", "INBOW" }},
	{"names that change places", func(s *house.Saved) { s.Names[0], s.Names[1] = "INBOX", "B" }},
	{"a name twice", func(s *house.Saved) { s.Names[5] = "a/b" }},
	{"an empty name", func(s *house.Saved) { s.Names[0] = "" }},
	{"a name that is none", func(s *house.Saved) { s.Names[0] = "B*" }},
	{"inbox in small letters", func(s *house.Saved) { s.Names[5] = "inbox" }},
	{"a name that lies in nothing", func(s *house.Saved) { s.Names[3] = "A" }},
	{"wants that change places", func(s *house.Saved) { s.Wants[2], s.Wants[3] = s.Wants[3], s.Wants[2] }},
	{"a want twice", func(s *house.Saved) { s.Wants[1] = "INBOX" }},
	{"an empty want", func(s *house.Saved) { s.Wants[0] = "" }},
	{"a want that is none", func(s *house.Saved) { s.Wants[3] = "z//" }},
	{"Next 0", func(s *house.Saved) { s.Next = 0 }},
	{"Next below 0", func(s *house.Saved) { s.Next = -20 }},
	{"Next below a Valid", func(s *house.Saved) { s.Next = 19 }},
	{"Next too great", func(s *house.Saved) { s.Next = api.MaxNumber + 1 }},
	{"the greatest Next", func(s *house.Saved) { s.Next = math.MaxInt }},
	{"the least Next", func(s *house.Saved) { s.Next = math.MinInt }},
	{"Valid 0", func(s *house.Saved) { s.Boxes[0].Valid = 0 }},
	{"Valid below 0", func(s *house.Saved) { s.Boxes[0].Valid = -5 }},
	{"Valid twice", func(s *house.Saved) { s.Boxes[0].Valid = 1 }},
	{"a box's Next 0", func(s *house.Saved) { s.Boxes[0].Next = 0 }},
	{"a box's Next below 0", func(s *house.Saved) { s.Boxes[0].Next = -1 }},
	{"a box's Next too great", func(s *house.Saved) { s.Boxes[0].Next = api.MaxNumber + 1 }},
	{"a box's Next below a UID", func(s *house.Saved) { s.Boxes[1].Next = 11 }},
	{"UID 0", func(s *house.Saved) { s.Boxes[1].Letters[0].UID = 0 }},
	{"UID below 0", func(s *house.Saved) { s.Boxes[1].Letters[0].UID = -2 }},
	{"UID twice", func(s *house.Saved) { s.Boxes[1].Letters[0].UID = 8 }},
	{"letters that change places", func(s *house.Saved) {
		l := s.Boxes[1].Letters
		l[0], l[1] = l[1], l[0]
	}},
	{"flags that change places", func(s *house.Saved) { s.Boxes[1].Letters[0].Flags = []string{"k", `\Seen`} }},
	{"a flag twice", func(s *house.Saved) { s.Boxes[1].Letters[0].Flags = []string{"k", "k"} }},
	{"a flag in small letters", func(s *house.Saved) { s.Boxes[1].Letters[0].Flags = []string{`\seen`} }},
	{"an empty flag", func(s *house.Saved) { s.Boxes[1].Letters[0].Flags = []string{""} }},
	{"a flag that is none", func(s *house.Saved) { s.Boxes[1].Letters[0].Flags = []string{"a b"} }},
	{"a day below 0", func(s *house.Saved) { s.Boxes[1].Letters[0].Day = -1 }},
	{"a day too great", func(s *house.Saved) { s.Boxes[1].Letters[0].Day = api.MaxNumber + 1 }},
	{"a text too long", func(s *house.Saved) { s.Boxes[1].Letters[0].Text = strings.Repeat("x", api.MaxMessage+1) }},
}

// TestWrongHouses: what is not Right is not written, nor read as if it had been (10.1, 10.2).
func TestWrongHouses(t *testing.T) {
	for _, c := range wrongs {
		s := sample()
		c.do(&s)
		if house.Right(s) {
			t.Errorf("%s: it is Right", c.what)
		}
		before := shown(s)
		if got, err := Full(s); got != "" || !isPlain(err, api.ErrArg) {
			t.Errorf("%s: Full = %q, %v", c.what, got, err)
		}
		for _, pair := range [][2]house.Saved{{s, sample()}, {sample(), s}, {s, s}, {s, alone()}, {alone(), s}} {
			if got, err := Diff(pair[0], pair[1]); got != "" || !isPlain(err, api.ErrArg) {
				t.Errorf("%s: Diff = %q, %v", c.what, got, err)
			}
		}
		for _, text := range []string{"", "D", secondDiff(s, sample()).String(), secondDiff(s, s).String(), secondFull(s).String()} {
			if got, err := Apply(s, text); !isNone(got) || !isPlain(err, api.ErrArg) {
				t.Errorf("%s: Apply(%q) = %s, %v", c.what, text, shown(got), err)
			}
		}
		wrongRead(t, c.what, secondFull(s).String())
		for _, a := range []house.Saved{sample(), alone()} {
			wrongApply(t, c.what, a, secondDiff(a, s).String())
		}
		if shown(s) != before {
			t.Errorf("%s: it is %s, not %s any more", c.what, shown(s), before)
		}
	}
}

// TestBeginnings: no beginning of what is written is read, nor anything with more behind it (10.1, 10.2).
func TestBeginnings(t *testing.T) {
	b := sample()
	b.Boxes[1].Letters[0].Day = 5
	for _, s := range []house.Saved{alone(), sample()} {
		full, diff := checkFull(t, s), checkDiff(t, s, b)
		for n := range len(full) {
			wrongRead(t, "a beginning", full[:n])
			wrongRead(t, "an end", full[n+1:])
		}
		for n := range len(diff) {
			wrongApply(t, "a beginning", s, diff[:n])
			wrongApply(t, "an end", s, diff[n+1:])
		}
		for c := range 256 {
			more := string([]byte{byte(c)})
			wrongRead(t, "more behind it", full+more)
			wrongRead(t, "more ahead of it", more+full)
			wrongApply(t, "more behind it", s, diff+more)
			wrongApply(t, "more ahead of it", s, more+diff)
			if c != 'F' {
				wrongRead(t, "another beginning", more+full[1:])
			}
			if c != 'D' {
				wrongApply(t, "another beginning", s, more+diff[1:])
			}
		}
		for _, more := range []string{"0;", "0:", "1;1;0;", full, diff, strings.Repeat("x", 5000)} {
			wrongRead(t, "more behind it", full+more)
			wrongApply(t, "more behind it", s, diff+more)
		}
		wrongRead(t, "what Diff tells", diff)
		wrongApply(t, "what Full tells", s, full)
	}
	for _, text := range []string{"", "F", "D", "f2;0;1;5:INBOX1;1;0;", "2;0;1;5:INBOX1;1;0;", "FF2;0;1;5:INBOX1;1;0;", ";", ":", "F;", "D;", "\x00"} {
		wrongRead(t, "nothing", text)
		wrongApply(t, "nothing", alone(), text)
		wrongApply(t, "nothing", sample(), text)
	}
}

// wrongNumbers are writings of a number that are none.
func wrongNumbers(n string) []string {
	end := n[len(n)-1:]
	n = n[:len(n)-1]
	other := map[string]string{";": ":", ":": ";"}[end]
	v, _ := strconv.ParseUint(n, 10, 32)
	out := []string{n, n + other, n + other + end, end + n, n + end + end, n + " " + end}
	for _, w := range []string{
		"0" + n, "00" + n, "+" + n, "-" + n, " " + n, "\t" + n, "\n" + n, n + "\n", n + "\x00", "x" + n, "0x" + n, n + "x", n + ".", n + ".0", n + "e0", n + "_0", n + ",000", "", "-", "+", "--" + n,
		strconv.FormatUint(1<<32+v, 10), "18446744073709551616", "184467440737095516160" + n, "2147483648", "4294967296", "9223372036854775807", "9223372036854775808", strings.Repeat("9", 40), strings.Repeat("1", 5000),
		strings.Repeat("0", 40) + n, "٣", "１", "\xff",
	} {
		out = append(out, w+end)
	}
	return out
}

// TestNumbers: each number, wherever it stands, must be written as it is written (10.1, 10.2).
func TestNumbers(t *testing.T) {
	b := sample()
	b.Boxes[1].Letters[0].Day = 5
	b.Boxes[5].Letters = b.Boxes[5].Letters[1:]
	put := func(p pieces, i int, text string) string {
		p = slices.Clone(p)
		p[i].text = text
		return p.String()
	}
	full, diff := secondFull(sample()), secondDiff(sample(), b)
	for i, x := range full {
		if x.isNumber {
			for _, w := range wrongNumbers(x.text) {
				wrongRead(t, "a number", put(full, i, w))
			}
		}
	}
	for i, x := range diff {
		if x.isNumber {
			for _, w := range wrongNumbers(x.text) {
				wrongApply(t, "a number", sample(), put(diff, i, w))
			}
		}
	}
	// Other numbers that are written rightly may be read, or not.
	read, taken := 0, 0
	for _, p := range []pieces{full, diff} {
		for i, x := range p {
			if !x.isNumber {
				continue
			}
			end := x.text[len(x.text)-1:]
			n, _ := strconv.Atoi(strings.TrimRight(x.text, ";:"))
			for _, m := range []int{0, 1, 2, n - 1, n + 1, n + 2, 10 * n, n / 10, 59, 60, 61, 1000, api.MaxNumber - 1, api.MaxNumber} {
				if m < 0 || m == n {
					continue
				}
				text := put(p, i, strconv.Itoa(m)+end)
				if checkRead(t, text) {
					read++
				}
				if checkApply(t, sample(), text) {
					taken++
				}
			}
		}
	}
	if read < 40 || taken < 20 {
		t.Error("only", read, "were read, and", taken, "taken")
	}
}

// TestReadWrong: rows and texts that are told longer, or shorter, than they are (10.1).
func TestReadWrong(t *testing.T) {
	for what, s := range map[string]string{
		"no names":                           "F2;0;0;",
		"no names, but a box":                "F2;0;0;1;1;0;",
		"names told longer":                  "F2;0;2;5:INBOX1;1;0;",
		"names told longer than they may be": "F2;0;31;5:INBOX1;1;0;",
		"wants told longer":                  "F2;1;1;5:INBOX1;1;0;",
		"wants told far longer":              "F2;2147483647;1;5:INBOX1;1;0;",
		"names told far longer":              "F2;0;2147483647;5:INBOX1;1;0;",
		"letters told longer":                "F2;0;1;5:INBOX1;1;1;",
		"letters told far longer":            "F2;0;1;5:INBOX1;1;2147483647;",
		"letters told shorter":               "F2;0;1;5:INBOX1;2;0;1;0;0;0:",
		"flags told longer":                  "F2;0;1;5:INBOX1;2;1;1;1;0;0:",
		"flags told far longer":              "F2;0;1;5:INBOX1;2;1;1;2147483647;0;0:",
		"flags told shorter":                 `F2;0;1;5:INBOX1;2;1;1;0;5:\Seen0;0:`,
		"a text told longer":                 "F2;0;1;5:INBOX1;2;1;1;0;0;2:x",
		"a text told far longer":             "F2;0;1;5:INBOX1;2;1;1;0;0;2147483647:x",
		"a text told shorter":                "F2;0;1;5:INBOX1;2;1;1;0;0;1:xx",
		"an empty text told longer":          "F2;0;1;5:INBOX1;2;1;1;0;0;1:",
		"a name told longer":                 "F2;0;1;6:INBOX1;1;0;",
		"a name told shorter":                "F2;0;1;4:INBOX1;1;0;",
		"a text without :":                   "F2;0;1;5INBOX1;1;0;",
		"a number without ;":                 "F2;0;1;5:INBOX1;1;0",
		"a box less":                         "F3;0;2;5:INBOX1:a1;1;0;",
		"a box more":                         "F3;0;1;5:INBOX1;1;0;2;1;0;",
		"names ahead of wants":               "F2;1;5:INBOX0;1;1;0;",
		"how many boxes":                     "F2;0;1;5:INBOX1;1;1;0;",
		"a blank":                            "F2; 0;1;5:INBOX1;1;0;",
		"a line end":                         "F2;0;1;5:INBOX1;1;0;\n",
		"bytes counted as letters":           "F2;1;1:é1;5:INBOX1;1;0;",
	} {
		wrongRead(t, what, s)
		checkRead(t, s)
		wrongApply(t, what, alone(), "D"+s[1:])
		checkApply(t, alone(), "D"+s[1:])
	}
}

// base is a house of two boxes, with letters.
func base() house.Saved {
	return house.Saved{
		Names: []string{"INBOX", "work"},
		Boxes: []box.Box{
			{Valid: 1, Next: 4, Letters: []api.Letter{{UID: 1, Flags: []string{`\Seen`, "k"}, Day: 5, Text: "x"}, {UID: 2}, {UID: 3, Flags: []string{"k"}, Day: 7, Text: "y;"}}},
			{Valid: 2, Next: 2, Letters: []api.Letter{{UID: 1, Day: 9, Text: "w"}}},
		},
		Next: 3,
	}
}

// TestDiff: how changes are written, and taken over (10.2).
func TestDiff(t *testing.T) {
	const begin, in, work = "D3;0;2;5:INBOX4:work", "1;4;3;1;2;3;0;", "2;2;1;1;0;"
	for _, c := range []struct {
		what string
		do   func(s *house.Saved)
		want string
	}{
		{"no change at all", func(s *house.Saved) {}, begin + in + work},
		{"another Next", func(s *house.Saved) { s.Next = 30 }, "D30;0;2;5:INBOX4:work" + in + work},
		{"wants", func(s *house.Saved) { s.Wants = []string{"a", "work"} }, "D3;2;1:a4:work2;5:INBOX4:work" + in + work},
		{"a box's other Next", func(s *house.Saved) { s.Boxes[0].Next = 44 }, begin + "1;44;3;1;2;3;0;" + work},
		{"a new letter", func(s *house.Saved) {
			b := &s.Boxes[1]
			b.Next, b.Letters = 3, append(b.Letters, api.Letter{UID: 2, Flags: []string{`\Draft`}, Day: 1, Text: "new"})
		}, begin + in + `2;3;1;1;1;2;1;6:\Draft1;3:new`},
		{"a new letter ahead of others", func(s *house.Saved) {
			s.Boxes[0].Letters[1].UID, s.Boxes[0].Letters[2].UID, s.Boxes[0].Next = 4, 5, 6
		}, begin + "1;6;1;1;2;4;0;0;0:5;1;1:k7;2:y;" + work},
		{"the first letter gone", func(s *house.Saved) { s.Boxes[0].Letters = s.Boxes[0].Letters[1:] }, begin + "1;4;2;2;3;0;" + work},
		{"the middle letter gone", func(s *house.Saved) { s.Boxes[0].Letters = slices.Delete(s.Boxes[0].Letters, 1, 2) }, begin + "1;4;2;1;3;0;" + work},
		{"the last letter gone", func(s *house.Saved) { s.Boxes[0].Letters = s.Boxes[0].Letters[:2] }, begin + "1;4;2;1;2;0;" + work},
		{"all letters gone", func(s *house.Saved) { s.Boxes[0].Letters = nil }, begin + "1;4;0;0;" + work},
		{"other flags", func(s *house.Saved) { s.Boxes[0].Letters[0].Flags = []string{`\Seen`} }, begin + `1;4;2;2;3;1;1;1;5:\Seen5;1:x` + work},
		{"more flags", func(s *house.Saved) { s.Boxes[0].Letters[1].Flags = []string{"k"} }, begin + "1;4;2;1;3;1;2;1;1:k0;0:" + work},
		{"no flags", func(s *house.Saved) { s.Boxes[0].Letters[2].Flags = nil }, begin + "1;4;2;1;2;1;3;0;7;2:y;" + work},
		{"an empty list of flags", func(s *house.Saved) { s.Boxes[0].Letters[1].Flags = []string{} }, begin + in + work},
		{"a flag in other letters", func(s *house.Saved) { s.Boxes[0].Letters[2].Flags = []string{"l"} }, begin + "1;4;2;1;2;1;3;1;1:l7;2:y;" + work},
		{"another day", func(s *house.Saved) { s.Boxes[0].Letters[1].Day = 1 }, begin + "1;4;2;1;3;1;2;0;1;0:" + work},
		{"another text", func(s *house.Saved) { s.Boxes[0].Letters[1].Text = "t" }, begin + "1;4;2;1;3;1;2;0;0;1:t" + work},
		{"another text of as many bytes", func(s *house.Saved) { s.Boxes[0].Letters[0].Text = "X" }, begin + `1;4;2;2;3;1;1;2;5:\Seen1:k5;1:X` + work},
		{"another UID", func(s *house.Saved) { s.Boxes[1].Letters[0].UID, s.Boxes[1].Next = 2, 3 }, begin + in + "2;3;0;1;2;0;9;1:w"},
		{"letters that are the same, and others, in turn", func(s *house.Saved) {
			s.Boxes[0].Letters[0].Day, s.Boxes[0].Letters[2].Day = 0, 0
		}, begin + `1;4;1;2;2;1;2;5:\Seen1:k0;1:x3;1;1:k0;2:y;` + work},
		{"a box gone", func(s *house.Saved) { s.Names, s.Boxes = s.Names[:1], s.Boxes[:1] }, "D3;0;1;5:INBOX" + in},
		{"a new box", func(s *house.Saved) {
			s.Names, s.Next = append(s.Names, "work/new"), 4
			s.Boxes = append(s.Boxes, box.Box{Valid: 3, Next: 2, Letters: []api.Letter{{UID: 1, Day: 9, Text: "w"}}})
		}, "D4;0;3;5:INBOX4:work8:work/new" + in + work + "3;2;0;1;1;0;9;1:w"},
		{"a box that is called otherwise", func(s *house.Saved) { s.Names[1] = "play" }, "D3;0;2;5:INBOX4:play" + in + work},
		{"a box that is called otherwise, and stands ahead", func(s *house.Saved) {
			s.Names[0], s.Names[1] = "A", "INBOX"
			s.Boxes[0], s.Boxes[1] = s.Boxes[1], s.Boxes[0]
			s.Boxes[0].Valid, s.Boxes[1].Valid = 2, 1
		}, "D3;0;2;1:A5:INBOX" + work + in},
		{"boxes that change names", func(s *house.Saved) { s.Boxes[0], s.Boxes[1] = s.Boxes[1], s.Boxes[0] }, begin + work + in},
		{"a box of the name and another Valid", func(s *house.Saved) { s.Boxes[1].Valid, s.Next = 3, 4 }, "D4;0;2;5:INBOX4:work" + in + "3;2;0;1;1;0;9;1:w"},
		{"boxes that change Valids", func(s *house.Saved) { s.Boxes[0].Valid, s.Boxes[1].Valid = 2, 1 }, begin + `2;4;0;3;1;2;5:\Seen1:k5;1:x2;0;0;0:3;1;1:k7;2:y;1;2;0;1;1;0;9;1:w`},
		{"a letter that another box has", func(s *house.Saved) { s.Boxes[1].Letters[0] = s.Boxes[0].Letters[0] }, begin + in + `2;2;0;1;1;2;5:\Seen1:k5;1:x`},
		{"another house", func(s *house.Saved) {
			*s = house.Saved{Names: []string{"INBOX"}, Boxes: []box.Box{{Valid: 7, Next: 1}}, Wants: []string{"q"}, Next: 8}
		}, "D8;1;1:q1;5:INBOX7;1;0;0;"},
	} {
		a, b := base(), base()
		c.do(&b)
		if got, err := Diff(a, b); got != c.want || err != nil {
			t.Errorf("%s: Diff = %q, %v, not %q", c.what, got, err, c.want)
		}
		if got, err := Apply(a, c.want); err != nil || shown(got) != shown(b) {
			t.Errorf("%s: Apply = %s, %v, not %s", c.what, shown(got), err, shown(b))
		}
		checkDiff(t, a, b)
		checkDiff(t, b, a)
	}
	if got, err := Diff(alone(), alone()); got != "D2;0;1;5:INBOX1;1;0;0;" || err != nil {
		t.Errorf("Diff = %q, %v", got, err)
	}
}

// TestApplyWrong: what Diff does not tell of a house (10.2).
func TestApplyWrong(t *testing.T) {
	const begin, in, work = "D3;0;2;5:INBOX4:work", "1;4;3;1;2;3;0;", "2;2;1;1;0;"
	const one, two, three, w = `1;2;5:\Seen1:k5;1:x`, "2;0;0;0:", "3;1;1:k7;2:y;", "1;0;9;1:w"
	for what, s := range map[string]string{
		"a UID that is not there":                  begin + "1;9;3;1;2;4;0;" + work,
		"a UID 0":                                  begin + "1;4;3;0;2;3;0;" + work,
		"a UID of the other box":                   begin + in + "2;9;1;2;0;",
		"a UID of a box that is not there":         "D4;0;2;5:INBOX4:work" + in + "3;2;1;1;0;",
		"UIDs that fall":                           begin + "1;4;3;3;2;1;0;" + work,
		"two UIDs that change places":              begin + "1;4;3;1;3;2;0;" + work,
		"a UID twice":                              begin + "1;4;3;1;2;2;0;" + work,
		"a UID twice beside all":                   begin + "1;4;4;1;2;3;3;0;" + work,
		"UIDs told longer":                         begin + "1;4;4;1;2;3;0;" + work,
		"UIDs told shorter":                        begin + "1;4;2;1;2;3;0;" + work,
		"UIDs told far longer":                     begin + "1;4;2147483647;1;2;3;0;" + work,
		"letters told longer":                      begin + "1;4;3;1;2;3;1;" + work,
		"letters told far longer":                  begin + "1;4;3;1;2;3;2147483647;" + work,
		"the last letter told, though it is there": begin + "1;4;2;1;2;1;" + three + work,
		"the first letter told, though it is":      begin + "1;4;2;2;3;1;" + one + work,
		"an empty letter told, though it is":       begin + "1;4;2;1;3;1;" + two + work,
		"all letters told, though they are":        begin + "1;4;0;3;" + one + two + three + work,
		"the other box's letter told, though":      begin + in + "2;2;0;1;" + w,
		"a letter told twice":                      begin + "1;9;3;1;2;3;2;5;0;0;0:5;0;0;0:" + work,
		"a letter told, and its UID":               begin + "1;4;3;1;2;3;1;2;0;1;0:" + work,
		"a letter told just so, and its UID":       begin + "1;4;3;1;2;3;1;" + two + work,
		"letters that fall":                        begin + "1;9;3;1;2;3;2;6;0;0;0:5;0;0;0:" + work,
		"a letter of no UID below Next":            begin + "1;4;3;1;2;3;1;4;0;0;0:" + work,
		"a kept letter of no UID below Next":       begin + "1;3;3;1;2;3;0;" + work,
		"a letter of UID 0":                        begin + "1;4;3;1;2;3;1;0;0;0;0:" + work,
		"flags that are none":                      begin + "1;4;2;1;3;1;2;1;1: 0;0:" + work,
		"flags that are no set":                    begin + "1;4;2;1;3;1;2;2;1:k1:k0;0:" + work,
		"a Valid twice":                            begin + in + "1;4;3;1;2;3;0;",
		"a Valid as great as Next":                 begin + in + "3;2;0;0;",
		"a name less":                              "D3;0;1;5:INBOX" + in + work,
		"a name more":                              "D3;0;3;5:INBOX4:work1:x" + in + work,
		"no INBOX":                                 "D3;0;2;5:INBOY4:work" + in + work,
		"names that fall":                          "D3;0;2;4:work5:INBOX" + in + work,
		"a want that is none":                      "D3;1;1:*2;5:INBOX4:work" + in + work,
		"letters ahead of UIDs":                    begin + "1;4;0;3;1;2;3;" + work,
		"no letters":                               begin + "1;4;3;1;2;3;" + work,
	} {
		wrongApply(t, what, base(), s)
		checkApply(t, base(), s)
	}
	if !checkApply(t, base(), begin+in+work) {
		t.Error("what is right is not taken")
	}
}

// TestApplyOther: what was told of another house is taken if Diff would tell just it, and else not (10.2).
func TestApplyOther(t *testing.T) {
	b := base()
	b.Boxes[0].Letters[1].Day = 8
	b.Boxes[0].Letters = b.Boxes[0].Letters[:2]
	told := checkDiff(t, base(), b)
	for _, c := range []struct {
		what  string
		do    func(a *house.Saved)
		taken bool
	}{
		{"the same", func(a *house.Saved) {}, true},
		{"another name", func(a *house.Saved) { a.Names[1] = "play" }, true},
		{"another Next", func(a *house.Saved) { a.Next = 99 }, true},
		{"another letter that is gone", func(a *house.Saved) { a.Boxes[0].Letters[2].Day = 1 }, true},
		{"another letter that is told", func(a *house.Saved) { a.Boxes[0].Letters[1].Text = "z" }, true},
		{"no letter that is told", func(a *house.Saved) { a.Boxes[0].Letters = slices.Delete(a.Boxes[0].Letters, 1, 2) }, true},
		{"another letter that is kept", func(a *house.Saved) { a.Boxes[0].Letters[0].Text = "z" }, true},
		{"no letter that is kept", func(a *house.Saved) { a.Boxes[0].Letters = a.Boxes[0].Letters[1:] }, false},
		{"no letters", func(a *house.Saved) { a.Boxes[0].Letters = nil }, false},
		{"the letter that is told", func(a *house.Saved) { a.Boxes[0].Letters[1].Day = 8 }, false},
		{"all that comes of it", func(a *house.Saved) { *a = copied(b) }, false},
		{"another Valid", func(a *house.Saved) { a.Boxes[0].Valid, a.Next = 9, 10 }, false},
		{"no box", func(a *house.Saved) { a.Names, a.Boxes = a.Names[:1], a.Boxes[:1] }, false},
		{"Valids that changed places", func(a *house.Saved) { a.Boxes[0].Valid, a.Boxes[1].Valid = 2, 1 }, true},
		{"INBOX alone", func(a *house.Saved) { *a = alone() }, false},
	} {
		a := base()
		c.do(&a)
		if got := checkApply(t, a, told); got != c.taken {
			t.Errorf("%s: taken: %v", c.what, got)
		}
	}
	// A letter that is kept is the one that this house has.
	a := base()
	a.Boxes[0].Letters[0].Text = "z"
	got, err := Apply(a, told)
	if err != nil || got.Boxes[0].Letters[0].Text != "z" || got.Boxes[0].Letters[1].Day != 8 {
		t.Errorf("Apply = %s, %v", shown(got), err)
	}
}

// spoil writes into all that a house has.
func spoil(s *house.Saved) {
	for _, l := range [][]string{s.Names, s.Wants} {
		for i := range l {
			l[i] = "written"
		}
		_ = append(l[:0], "w", "w")
	}
	for i := range s.Boxes {
		for j := range s.Boxes[i].Letters {
			l := &s.Boxes[i].Letters[j]
			for k := range l.Flags {
				l.Flags[k] = "written"
			}
			_ = append(l.Flags[:len(l.Flags):cap(l.Flags)], "w")
			l.UID, l.Day, l.Text = 99, 99, "written"
		}
		s.Boxes[i].Letters = append(s.Boxes[i].Letters, api.Letter{UID: 98})
		s.Boxes[i].Valid, s.Boxes[i].Next = 99, 99
	}
}

// TestFresh: what is told is the caller's, and shares nothing with what it was told of (P4).
func TestFresh(t *testing.T) {
	b := sample()
	b.Boxes[1].Letters[1].Flags = []string{"new"}
	full, diff := checkFull(t, sample()), checkDiff(t, sample(), b)
	first, err := Read(full)
	if err != nil {
		t.Fatal(err)
	}
	again, err := Read(full)
	if err != nil {
		t.Fatal(err)
	}
	spoil(&first)
	if shown(again) != shown(sample()) {
		t.Errorf("what was read is %s", shown(again))
	}

	a := sample()
	first, err = Apply(a, diff)
	if err != nil {
		t.Fatal(err)
	}
	again, err = Apply(a, diff)
	if err != nil {
		t.Fatal(err)
	}
	spoil(&first)
	if shown(again) != shown(b) || shown(a) != shown(sample()) {
		t.Errorf("they are %s and %s", shown(again), shown(a))
	}
	spoil(&a)
	if shown(again) != shown(b) {
		t.Errorf("what was told is %s, not %s", shown(again), shown(b))
	}

	// What is done in a house that is made of it is not seen in it, either.
	a = sample()
	now, err := Apply(a, diff)
	if err != nil {
		t.Fatal(err)
	}
	h, err := house.Load(now)
	if err != nil {
		t.Fatal(err)
	}
	in, err := h.Get("INBOX")
	if err != nil {
		t.Fatal(err)
	}
	if err := in.Flag(2, box.Less, []string{"k"}); err != nil {
		t.Fatal(err)
	}
	if _, err := in.Append(nil, 1, "new"); err != nil {
		t.Fatal(err)
	}
	if shown(a) != shown(sample()) || shown(now) != shown(b) {
		t.Errorf("they are %s and %s", shown(a), shown(now))
	}
}

// room is a list with room behind it, and things in that room that nobody may write into.
func room[T any](l []T, behind T) []T {
	return append(slices.Clone(l), behind, behind, behind)[:len(l)]
}

// TestRoom: nothing is written behind a list's length (P4).
func TestRoom(t *testing.T) {
	roomy := func(s house.Saved) house.Saved {
		s.Names, s.Wants = room(s.Names, "room"), room(s.Wants, "room")
		for i := range s.Boxes {
			for j := range s.Boxes[i].Letters {
				l := &s.Boxes[i].Letters[j]
				l.Flags = room(l.Flags, "room")
			}
			s.Boxes[i].Letters = room(s.Boxes[i].Letters, api.Letter{UID: 77})
		}
		s.Boxes = room(s.Boxes, box.Box{Valid: 77})
		return s
	}
	b := sample()
	b.Boxes[1].Letters[1].Flags = []string{"new"}
	b.Boxes[1].Next, b.Boxes[1].Letters = 20, append(b.Boxes[1].Letters, api.Letter{UID: 15})
	b.Boxes[5].Letters = b.Boxes[5].Letters[1:]
	a, b := roomy(sample()), roomy(b)
	checkFull(t, a)
	checkFull(t, b)
	checkDiff(t, a, b)
	checkDiff(t, b, a)
	for _, s := range []house.Saved{a, b} {
		lists := [][]string{s.Names, s.Wants}
		for _, x := range s.Boxes {
			for _, l := range x.Letters {
				lists = append(lists, l.Flags)
			}
			for _, l := range x.Letters[:len(x.Letters)+3][len(x.Letters):] {
				if l.UID != 77 {
					t.Errorf("behind letters stands %v", l)
				}
			}
		}
		for _, l := range lists {
			if behind := l[:len(l)+3][len(l):]; !slices.Equal(behind, []string{"room", "room", "room"}) {
				t.Errorf("behind %q stand %q", l, behind)
			}
		}
		for _, x := range s.Boxes[:len(s.Boxes)+3][len(s.Boxes):] {
			if x.Valid != 77 {
				t.Errorf("behind boxes stands %v", x)
			}
		}
	}
}

// drawnText is a text that looks like what is written, or like nothing.
func drawnText(r *rand.Rand) string {
	words := []string{"", "x", "1;", "0:", "12:", "F2;0;1;5:INBOX1;1;0;", "D", "\x00", "\xff", "é", "\r\n", ";;;", ":", "-1;", "00;", "Subject: a\r\n\r\nhello", strings.Repeat("long", 30)}
	out := words[r.Intn(len(words))]
	for r.Intn(3) == 0 {
		out += words[r.Intn(len(words))]
	}
	return out
}

// drawnFlags are flags, as somebody may write them.
func drawnFlags(r *rand.Rand) (out []string) {
	words := []string{`\Seen`, `\Deleted`, `\draft`, "k", "work", "a"}
	for range r.Intn(4) {
		out = append(out, words[r.Intn(len(words))])
	}
	return out
}

// deed does something in a house.
func deed(r *rand.Rand, h *house.House) {
	words := []string{"a", "b", "a/b", "a/b/c", "inbox/x", "é", "c"}
	names := h.Names()
	there, some := names[r.Intn(len(names))], words[r.Intn(len(words))]
	switch r.Intn(10) {
	case 0:
		_ = h.Create(some)
	case 1:
		_ = h.Delete(there)
	case 2:
		_ = h.Rename(there, some)
	case 3:
		_ = h.Want(some, r.Intn(3) > 0)
	default:
		b, err := h.Get(there)
		if err != nil {
			return
		}
		switch r.Intn(5) {
		case 0:
			_ = b.Flag(1+r.Intn(b.Next), r.Intn(3), drawnFlags(r))
		case 1:
			b.Expunge(func(uid int) bool { return uid%2 == r.Intn(2) })
		default:
			_, _ = b.Append(drawnFlags(r), r.Intn(20), drawnText(r))
		}
	}
}

// deeds does things in a house: what it has then.
func deeds(r *rand.Rand, h *house.House, many int) house.Saved {
	for range many {
		deed(r, h)
	}
	return h.Save()
}

// spoilt is a text in which something is otherwise.
func spoilt(r *rand.Rand, s string) string {
	const signs = "00112345679;;::FD-+ x\x00"
	at := r.Intn(len(s))
	sign := string(signs[r.Intn(len(signs))])
	switch r.Intn(5) {
	case 0:
		return s[:at] + s[at+1:]
	case 1:
		return s[:at] + sign + s[at:]
	case 2:
		to := at + r.Intn(len(s)-at)
		return s[:at] + s[to:]
	case 3:
		to := at + r.Intn(min(len(s)-at, 20))
		return s[:to] + s[at:]
	}
	return s[:at] + sign + s[at+1:]
}

// TestDrawn: drawn houses, and what changed in them, held against a second reading; spoilt texts, too.
func TestDrawn(t *testing.T) {
	r := rand.New(rand.NewSource(29))
	read, taken, foreign := 0, 0, 0
	for range 500 {
		h := house.New()
		a := deeds(r, h, r.Intn(40))
		b := deeds(r, h, r.Intn(20))
		full, diff := checkFull(t, a), checkDiff(t, a, b)
		checkDiff(t, b, a)
		checkDiff(t, a, a)
		checkRead(t, full)
		checkApply(t, a, diff)
		if checkApply(t, b, diff) {
			foreign++
		}
		for range 20 {
			if s := spoilt(r, full); checkRead(t, s) && s != full {
				read++
			}
			if s := spoilt(r, diff); checkApply(t, a, s) && s != diff {
				taken++
			}
		}
		// A box of another house may have the same number.
		checkDiff(t, a, deeds(r, house.New(), 30))
	}
	if read < 100 || taken < 100 || foreign < 20 || foreign > 480 {
		t.Error(read, "spoilt ones were read,", taken, "taken; of another house", foreign)
	}
}

// TestDayByDay: what is told day by day leads to what is told all at once (10.2).
func TestDayByDay(t *testing.T) {
	r := rand.New(rand.NewSource(10))
	for range 100 {
		h := house.New()
		first := h.Save()
		kept := first
		for range 12 {
			before := h.Save()
			now := deeds(r, h, r.Intn(8))
			told, err := Diff(before, now)
			if err != nil {
				t.Fatal(err)
			}
			kept, err = Apply(kept, told)
			if err != nil || shown(kept) != shown(now) {
				t.Fatalf("Apply = %s, %v, not %s", shown(kept), err, shown(now))
			}
		}
		atOnce, err := Apply(first, checkDiff(t, first, h.Save()))
		if err != nil || shown(atOnce) != shown(kept) {
			t.Fatalf("all at once it is %s, %v, not %s", shown(atOnce), err, shown(kept))
		}
		again, err := house.Load(kept)
		if err != nil || shown(again.Save()) != shown(h.Save()) {
			t.Fatalf("it does not live again: %v", err)
		}
	}
}

// TestEverySpoilt: the sample with each byte gone, twice, or another one.
func TestEverySpoilt(t *testing.T) {
	a, b := base(), base()
	b.Wants = []string{"q"}
	b.Boxes[0].Letters[1].Day = 8
	full, diff := checkFull(t, a), checkDiff(t, a, b)
	both := func(text string) {
		checkRead(t, text)
		checkApply(t, a, text)
	}
	for _, s := range []string{full, diff} {
		for at := range len(s) {
			both(s[:at] + s[at+1:])
			for c := range 256 {
				sign := string([]byte{byte(c)})
				both(s[:at] + sign + s[at+1:])
				both(s[:at] + sign + s[at:])
			}
		}
	}
}

// TestEnds: whatever is told, calls end soon, and hold no more than a house may have (P1).
func TestEnds(t *testing.T) {
	const many = 1 << 22
	begun := time.Now()
	for _, behind := range []string{
		"2147483647;2147483647;", "2;2147483647;", "2;0;2147483647;", "2;0;1;5:INBOX1;1;2147483647;", "2;0;1;5:INBOX1;1;0;2147483647;",
		"2;0;1;5:INBOX1;2;1;1;2147483647;", "2;0;1;5:INBOX1;2;1;1;0;0;2147483647:", "2;0;1;5:INBOX1;2;0;1;1;2147483647;",
		"2;1048576;", "2;0;1048576;", "2;0;1;5:INBOX1;1;1048576;", "2;0;30;", "2;60;", "",
	} {
		for _, rest := range []string{"", "0:", "0;", "1;", "1:1", "9", "x", ";", ":", "30;", "60;", "1;1;60;"} {
			s := behind + strings.Repeat(rest, many/max(len(rest), 1))
			wrongRead(t, "much", "F"+s)
			wrongApply(t, "much", alone(), "D"+s)
		}
	}
	if took := time.Since(begun); took > time.Minute {
		t.Error("it took", took)
	}
	rows := "F2;1000000;" + strings.Repeat("0:", 1000000)
	if got := testing.AllocsPerRun(1, func() { _, _ = Read(rows) }); got > 1000 {
		t.Error("a row that is too long is held", got)
	}
}

// FuzzArchive: any bytes: they are read as a second reading does, or not.
func FuzzArchive(f *testing.F) {
	b := base()
	b.Boxes[0].Letters[1].Day = 8
	for _, s := range []house.Saved{alone(), base(), b, sample()} {
		f.Add(secondFull(s).String())
		f.Add(secondDiff(base(), s).String())
		f.Add(secondDiff(alone(), s).String())
	}
	f.Fuzz(func(t *testing.T, s string) {
		checkRead(t, s)
		checkApply(t, base(), s)
		checkApply(t, alone(), s)
	})
}
