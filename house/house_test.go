package house

import (
	"errors"
	"fmt"
	"math"
	"math/rand"
	"reflect"
	"slices"
	"sort"
	"strconv"
	"strings"
	"testing"
	"time"
	"unicode/utf8"

	"letterbox/api"
	"letterbox/box"
)

// isPlain says whether an error is just that Errno, with no place.
func isPlain(err error, want api.Errno) bool {
	var at *api.At
	return api.Tell(err) == want && !errors.As(err, &at)
}

// shown is all that is saved, as a text.
func shown(s Saved) string {
	var out strings.Builder
	fmt.Fprintf(&out, "%d %q %q", s.Next, s.Wants, s.Names)
	for _, b := range s.Boxes {
		fmt.Fprintf(&out, " {%d %d", b.Valid, b.Next)
		for _, l := range b.Letters {
			fmt.Fprintf(&out, " [%d %q %d %q]", l.UID, l.Flags, l.Day, l.Text)
		}
		out.WriteString("}")
	}
	return out.String()
}

// houseOf is a house in which boxes of these names were made, one by one.
func houseOf(t testing.TB, names ...string) *House {
	t.Helper()
	h := New()
	for _, n := range names {
		if err := h.Create(n); err != nil {
			t.Fatalf("Create(%q): %v", n, err)
		}
	}
	return h
}

// numbers are boxes' names, each with its number, in order.
func numbers(h *House) string {
	s := h.Save()
	var out []string
	for i, n := range s.Names {
		out = append(out, n+"="+strconv.Itoa(s.Boxes[i].Valid))
	}
	return strings.Join(out, " ")
}

// put lays a message into a box.
func put(t testing.TB, h *House, name, text string) {
	t.Helper()
	b, err := h.Get(name)
	if err != nil {
		t.Fatalf("Get(%q): %v", name, err)
	}
	if _, err := b.Append([]string{`\Seen`, "x"}, 3, text); err != nil {
		t.Fatal(err)
	}
}

// boxShown is a box of a house, as a text: its number, the next message's, and its messages' numbers and texts.
func boxShown(t testing.TB, h *House, name string) string {
	t.Helper()
	b, err := h.Get(name)
	if err != nil {
		t.Fatalf("Get(%q): %v", name, err)
	}
	out := fmt.Sprintf("%d %d", b.Valid, b.Next)
	for _, l := range b.Letters {
		out += fmt.Sprintf(" %d%s", l.UID, l.Text)
	}
	return out
}

// check does something to a house: just that error, with which nothing is changed.
func check(t *testing.T, h *House, what string, want api.Errno, do func() error) {
	t.Helper()
	before := shown(h.Save())
	err := do()
	if !isPlain(err, want) {
		t.Errorf("%s: %v, not %d", what, err, want)
	}
	after := h.Save()
	if want != 0 && shown(after) != before {
		t.Errorf("%s, refused, changed %s to %s", what, before, shown(after))
	}
	if !Right(after) {
		t.Errorf("%s left what is not Right: %s", what, shown(after))
	}
}

func checkCreate(t *testing.T, h *House, name string, want api.Errno) {
	t.Helper()
	check(t, h, fmt.Sprintf("Create(%q)", name), want, func() error { return h.Create(name) })
}

func checkDelete(t *testing.T, h *House, name string, want api.Errno) {
	t.Helper()
	check(t, h, fmt.Sprintf("Delete(%q)", name), want, func() error { return h.Delete(name) })
}

func checkRename(t *testing.T, h *House, name, to string, want api.Errno) {
	t.Helper()
	check(t, h, fmt.Sprintf("Rename(%q, %q)", name, to), want, func() error { return h.Rename(name, to) })
}

func checkWant(t *testing.T, h *House, name string, on bool, want api.Errno) {
	t.Helper()
	check(t, h, fmt.Sprintf("Want(%q, %v)", name, on), want, func() error { return h.Want(name, on) })
}

// checkNumbers holds all names, and their boxes' numbers, against what is wanted.
func checkNumbers(t *testing.T, h *House, want string) {
	t.Helper()
	if got := numbers(h); got != want {
		t.Errorf("there are %s, not %s", got, want)
	}
}

// checkBox holds a box against what is wanted.
func checkBox(t *testing.T, h *House, name, want string) {
	t.Helper()
	if got := boxShown(t, h, name); got != want {
		t.Errorf("%s is %s, not %s", name, got, want)
	}
}

// wrongNames may be no names, each for another reason.
var wrongNames = []string{
	"", "/", "//", "///", "/a", "a/", "/a/", "a//b", "a/b//c", "a///b", "//a", "a//",
	"%", "*", "a%", "%a", "a*", "*a", "a/%", "a/*", "%/a", "*/a", "a%b", "a*b", "INBOX*", "INBOX/%", "a/b%c/d",
	"INBOX/", "/INBOX", "INBOX//a", "inbox/",
	"\x00", "a\n", "\r", "a\x1fb", "\x7f", "a\u0080", "\u009f", "\xff", "a\xc3", "\xc3/\xa9", "\xed\xa0\x80", "\xc0\xaf",
	strings.Repeat("n", api.MaxName+1), strings.Repeat("é", api.MaxName/2) + "e", "INBOX/" + strings.Repeat("n", api.MaxName-5), strings.Repeat("a/", api.MaxName/2) + "a",
	strings.Repeat("/", 1<<16), strings.Repeat("a", 1<<16),
}

// TestNameWrong: what may be no name (9.1).
func TestNameWrong(t *testing.T) {
	for _, s := range wrongNames {
		if got, err := Name(s); got != "" || !isPlain(err, api.ErrArg) {
			t.Errorf("Name(%.99q) = %q, %v", s, got, err)
		}
	}
}

// TestNameRight: what is a name, and which one (9.1).
func TestNameRight(t *testing.T) {
	for s, want := range map[string]string{
		"a": "a", "A": "A", "a/b": "a/b", "a/b/c": "a/b/c", "é": "é", " ": " ", " / ": " / ", "a b": "a b", "&": "&", "c&d": "c&d", ".": ".", `\`: `\`, `"`: `"`, "\U0001f4ec": "\U0001f4ec", "\u00a0": "\u00a0", "~": "~", "\ufffd": "\ufffd",
		"INBOX": "INBOX", "inbox": "INBOX", "Inbox": "INBOX", "iNbOx": "INBOX",
		"inbox/a": "INBOX/a", "InboX/a/b": "INBOX/a/b", "INBOX/inbox": "INBOX/inbox", "inbox/inbox": "INBOX/inbox", "inbox/Inbox/INBOX": "INBOX/Inbox/INBOX",
		"a/inbox": "a/inbox", "a/Inbox/b": "a/Inbox/b", "a/INBOX": "a/INBOX",
		"inbo": "inbo", "inboxx": "inboxx", "inboxx/a": "inboxx/a", "xinbox": "xinbox", " inbox": " inbox", "inbox ": "inbox ", "inbox.a": "inbox.a", "in/box": "in/box",
		// Letters that are like those, but none of them.
		"ınbox": "ınbox", "İNBOX": "İNBOX", "ｉnbox": "ｉnbox", "inbóx": "inbóx",
		strings.Repeat("n", api.MaxName):                    strings.Repeat("n", api.MaxName),
		strings.Repeat("é", api.MaxName/2):                  strings.Repeat("é", api.MaxName/2),
		"inbox/" + strings.Repeat("n", api.MaxName-6):       "INBOX/" + strings.Repeat("n", api.MaxName-6),
		strings.Repeat("a/", api.MaxName/2-1) + "a":         strings.Repeat("a/", api.MaxName/2-1) + "a",
		strings.Repeat("inbox/", api.MaxName/6-1) + "inbox": "INBOX/" + strings.Repeat("inbox/", api.MaxName/6-2) + "inbox",
	} {
		got, err := Name(s)
		if got != want || err != nil {
			t.Errorf("Name(%q) = %q, %v, not %q", s, got, err, want)
		}
		// What it tells is a name that stays.
		if again, err := Name(got); again != got || err != nil {
			t.Errorf("Name(%q) = %q, %v", got, again, err)
		}
	}
}

// TestNameInbox: all writings of it, alone, as a first part, and as a later one.
func TestNameInbox(t *testing.T) {
	for bits := range 32 {
		s := []byte("INBOX")
		for i := range s {
			if bits>>i&1 == 1 {
				s[i] += 'a' - 'A'
			}
		}
		w := string(s)
		for in, want := range map[string]string{w: "INBOX", w + "/" + w: "INBOX/" + w, "a/" + w: "a/" + w, w + "s": w + "s"} {
			if got, err := Name(in); got != want || err != nil {
				t.Errorf("Name(%q) = %q, %v, not %q", in, got, err, want)
			}
		}
	}
}

// secondName is a second reading of Name.
func secondName(s string) (string, bool) {
	if s == "" || len(s) > 60 || !utf8.ValidString(s) || s[0] == '/' || s[len(s)-1] == '/' || strings.Contains(s, "//") {
		return "", false
	}
	for _, r := range s {
		if r == '%' || r == '*' || r < 32 || r > 126 && r < 160 {
			return "", false
		}
	}
	first, _, _ := strings.Cut(s, "/")
	if strings.ToLower(first) == "inbox" && utf8.RuneCountInString(first) == len(first) {
		return "INBOX" + s[5:], true
	}
	return s, true
}

// checkName holds Name against its second reading.
func checkName(t *testing.T, s string) {
	t.Helper()
	want, ok := secondName(s)
	got, err := Name(s)
	if got != want || ok != (err == nil) || !ok && !isPlain(err, api.ErrArg) {
		t.Errorf("Name(%q) = %q, %v, not %q", s, got, err, want)
	}
}

// every calls with all texts of at most so many of these letters.
func every(letters string, most int, do func(s string)) {
	do("")
	if most == 0 {
		return
	}
	for i := range len(letters) {
		every(letters, most-1, func(s string) { do(letters[i:i+1] + s) })
	}
}

// TestNameEvery: each byte, alone, at either end and between; all short texts of the bytes that matter.
func TestNameEvery(t *testing.T) {
	for i := range 256 {
		c := string([]byte{byte(i)})
		for _, s := range []string{c, c + "a", "a" + c, "a" + c + "b", "a/" + c, c + "/a", "inbox" + c, "inbox/" + c, "é" + c} {
			checkName(t, s)
		}
	}
	for r := range rune(0x300) {
		checkName(t, "a"+string(r)+"b")
	}
	every("a/%*", 6, func(s string) {
		checkName(t, s)
		checkName(t, "inBox"+s)
		checkName(t, s+"inbox")
	})
	for many := range 70 {
		checkName(t, strings.Repeat("x", many))
		checkName(t, "inbox/"+strings.Repeat("x", many))
	}
}

// TestNew: one box, INBOX, with the number 1; the next one has 2 (9.1).
func TestNew(t *testing.T) {
	h := New()
	want := Saved{Names: []string{"INBOX"}, Boxes: []box.Box{{Valid: 1, Next: 1}}, Next: 2}
	if got := h.Save(); shown(got) != shown(want) || !Right(got) {
		t.Errorf("New is %s, not %s", shown(got), shown(want))
	}
	if got := h.Names(); !slices.Equal(got, []string{"INBOX"}) {
		t.Error(got)
	}
	checkBox(t, h, "INBOX", "1 1")
	if got := h.List("*", true); len(got) != 0 {
		t.Error("somebody wants", got)
	}
	// Two houses share nothing.
	other := New()
	checkCreate(t, h, "a", 0)
	put(t, h, "INBOX", "x")
	checkWant(t, h, "a", true, 0)
	if got := other.Save(); shown(got) != shown(want) {
		t.Errorf("another house is %s", shown(got))
	}
}

// TestNames: in order, byte by byte (9.1).
func TestNames(t *testing.T) {
	h := houseOf(t, "b", "é", "a/b", "a b", "a-b", "B", "a.b", "inbox/z", "a0", "\U0001f4ec", "~", "J", "H", "a/B")
	want := []string{"B", "H", "INBOX", "INBOX/z", "J", "a", "a b", "a-b", "a.b", "a/B", "a/b", "a0", "b", "~", "é", "\U0001f4ec"}
	if got := h.Names(); !slices.Equal(got, want) {
		t.Errorf("Names = %q, not %q", got, want)
	}
}

func TestGet(t *testing.T) {
	h := houseOf(t, "a/b", "inbox/x")
	for _, s := range wrongNames {
		if b, err := h.Get(s); b != nil || !isPlain(err, api.ErrArg) {
			t.Errorf("Get(%.99q) = %v, %v", s, b, err)
		}
	}
	for _, s := range []string{"A", "b", "a/B", "a/b/c", "INBOX/X", "x", "inboxx", "a ", " a", strings.Repeat("n", api.MaxName)} {
		if b, err := h.Get(s); b != nil || !isPlain(err, api.ErrMissing) {
			t.Errorf("Get(%q) = %v, %v", s, b, err)
		}
	}
	for s, valid := range map[string]int{"INBOX": 1, "inbox": 1, "InBox": 1, "a": 2, "a/b": 3, "INBOX/x": 4, "inbox/x": 4} {
		if b, err := h.Get(s); err != nil || b == nil || b.Valid != valid || b.Next != 1 || len(b.Letters) != 0 {
			t.Errorf("Get(%q) = %v, %v", s, b, err)
		}
	}
}

// TestGetIsTheBox: what is done to a box is done in the House, and to no other box (9.1).
func TestGetIsTheBox(t *testing.T) {
	h := houseOf(t, "a", "b")
	first, _ := h.Get("a")
	again, _ := h.Get("a")
	if n, err := first.Append([]string{`\deleted`}, 7, "one"); n != 1 || err != nil {
		t.Fatal(n, err)
	}
	if n, err := again.Append(nil, 8, "two"); n != 2 || err != nil {
		t.Error("the second Get is of another box:", n, err)
	}
	checkBox(t, h, "a", "2 3 1one 2two")
	checkBox(t, h, "b", "3 1")
	checkBox(t, h, "INBOX", "1 1")
	if err := again.Flag(2, box.Put, []string{"k"}); err != nil {
		t.Fatal(err)
	}
	if got := first.Expunge(func(int) bool { return true }); !slices.Equal(got, []int{1}) {
		t.Error(got)
	}
	want := Saved{Names: []string{"INBOX", "a", "b"}, Boxes: []box.Box{{Valid: 1, Next: 1}, {Valid: 2, Next: 3, Letters: []api.Letter{{UID: 2, Flags: []string{"k"}, Day: 8, Text: "two"}}}, {Valid: 3, Next: 1}}, Next: 4}
	if got := h.Save(); shown(got) != shown(want) {
		t.Errorf("%s, not %s", shown(got), shown(want))
	}
	// A box that is gone is in the House no more, nor in the one that is made again.
	checkDelete(t, h, "a", 0)
	checkCreate(t, h, "a", 0)
	if _, err := first.Append(nil, 1, "late"); err != nil {
		t.Fatal(err)
	}
	checkBox(t, h, "a", "4 1")
}

// TestCreate: those that it would LIE in are made, the shortest first (9.2).
func TestCreate(t *testing.T) {
	h := New()
	checkCreate(t, h, "a", 0)
	checkNumbers(t, h, "INBOX=1 a=2")
	checkCreate(t, h, "z/y/x", 0)
	checkNumbers(t, h, "INBOX=1 a=2 z=3 z/y=4 z/y/x=5")
	checkCreate(t, h, "a/b/c/d", 0)
	checkNumbers(t, h, "INBOX=1 a=2 a/b=6 a/b/c=7 a/b/c/d=8 z=3 z/y=4 z/y/x=5")
	checkCreate(t, h, "a/b/e", 0)
	checkCreate(t, h, "inbox/inbox/q", 0)
	checkNumbers(t, h, "INBOX=1 INBOX/inbox=10 INBOX/inbox/q=11 a=2 a/b=6 a/b/c=7 a/b/c/d=8 a/b/e=9 z=3 z/y=4 z/y/x=5")
	// Those whose names only begin alike are not in one another.
	checkCreate(t, h, "ab/c", 0)
	checkNumbers(t, h, "INBOX=1 INBOX/inbox=10 INBOX/inbox/q=11 a=2 a/b=6 a/b/c=7 a/b/c/d=8 a/b/e=9 ab=12 ab/c=13 z=3 z/y=4 z/y/x=5")
	for _, n := range h.Names() {
		if b, err := h.Get(n); err != nil || b.Next != 1 || len(b.Letters) != 0 {
			t.Errorf("%q is %v, %v", n, b, err)
		}
	}
	// What is there stays as it was.
	put(t, h, "a", "m")
	checkCreate(t, h, "a/x", 0)
	checkBox(t, h, "a", "2 2 1m")
}

func TestCreateErrors(t *testing.T) {
	h := houseOf(t, "a/b", "é")
	for _, s := range wrongNames {
		checkCreate(t, h, s, api.ErrArg)
	}
	for _, s := range []string{"INBOX", "inbox", "iNBOX", "a", "a/b", "é"} {
		checkCreate(t, h, s, api.ErrTwice)
	}
	checkNumbers(t, h, "INBOX=1 a=2 a/b=3 é=4")
}

// full is a house of so many boxes, INBOX, n1, n2 ..
func full(t testing.TB, many int) *House {
	t.Helper()
	h := New()
	for i := range many - 1 {
		if err := h.Create("n" + strconv.Itoa(i+1)); err != nil {
			t.Fatal(err)
		}
	}
	return h
}

// TestCreateFull: MaxBoxes, INBOX and those that are made ahead of it among them; nothing is made then, and no number is taken (9.2).
func TestCreateFull(t *testing.T) {
	for room := range 5 {
		for deep := range 7 {
			h := full(t, api.MaxBoxes-room)
			name := "x" + strings.Repeat("/x", deep)
			want := api.OK
			if deep+1 > room {
				want = api.ErrFull
			}
			checkCreate(t, h, name, want)
			if got := len(h.Names()); want != 0 && got != api.MaxBoxes-room || want == 0 && got != api.MaxBoxes-room+deep+1 {
				t.Errorf("room for %d, %d made: %d", room, deep+1, got)
			}
			// Under a box that is there fewer are made.
			h = full(t, api.MaxBoxes-room)
			want = api.OK
			if deep > room {
				want = api.ErrFull
			} else if deep == 0 {
				want = api.ErrTwice
			}
			checkCreate(t, h, "n1"+strings.Repeat("/x", deep), want)
		}
	}
	// What is wrong, or there, is told ahead of that.
	h := full(t, api.MaxBoxes)
	checkCreate(t, h, "n/", api.ErrArg)
	checkCreate(t, h, "n1", api.ErrTwice)
	checkCreate(t, h, "inbox", api.ErrTwice)
	checkCreate(t, h, "inbox/a", api.ErrFull)
	checkCreate(t, h, "q", api.ErrFull)
	// A number that was not given is given next.
	checkDelete(t, h, "n4", 0)
	checkCreate(t, h, "q/r", api.ErrFull)
	checkCreate(t, h, "q", 0)
	checkBox(t, h, "q", strconv.Itoa(api.MaxBoxes+1)+" 1")
	checkCreate(t, h, "r", api.ErrFull)
}

func TestDelete(t *testing.T) {
	h := houseOf(t, "a/b/c", "ab", "inbox/x")
	for _, s := range wrongNames {
		checkDelete(t, h, s, api.ErrArg)
	}
	for _, s := range []string{"b", "A", "a/c", "a/b/c/d", "INBOX/X", "x"} {
		checkDelete(t, h, s, api.ErrMissing)
	}
	for _, s := range []string{"INBOX", "inbox", "Inbox", "a", "a/b"} {
		checkDelete(t, h, s, api.ErrState)
	}
	checkNumbers(t, h, "INBOX=1 INBOX/x=6 a=2 a/b=3 a/b/c=4 ab=5")
	put(t, h, "a/b/c", "m")
	checkDelete(t, h, "a/b/c", 0)
	checkDelete(t, h, "a/b/c", api.ErrMissing)
	checkDelete(t, h, "a/b", 0)
	// ab does not LIE in a.
	checkDelete(t, h, "a", 0)
	checkDelete(t, h, "INBOX/a", api.ErrMissing)
	checkDelete(t, h, "iNBOX/x", 0)
	checkNumbers(t, h, "INBOX=1 ab=5")
	// INBOX stays, though nothing LIES in it any more.
	checkDelete(t, h, "INBOX", api.ErrState)
	// What is made again has new numbers, and no Letters.
	checkCreate(t, h, "a/b/c", 0)
	checkNumbers(t, h, "INBOX=1 a=7 a/b=8 a/b/c=9 ab=5")
	checkBox(t, h, "a/b/c", "9 1")
	checkDelete(t, h, "ab", 0)
	checkCreate(t, h, "ab", 0)
	checkNumbers(t, h, "INBOX=1 a=7 a/b=8 a/b/c=9 ab=10")
}

// TestDeleteBeside: names that stand, in order, between a box and those that LIE in it.
func TestDeleteBeside(t *testing.T) {
	h := houseOf(t, "a", "a!", "a.", "a0", "a/0")
	checkDelete(t, h, "a", api.ErrState)
	checkDelete(t, h, "a/0", 0)
	checkDelete(t, h, "a", 0)
	checkNumbers(t, h, "INBOX=1 a!=3 a.=4 a0=5")
}

// TestRenameOrder: of all that may be wrong at once the first one that is told is answered (9.2).
func TestRenameOrder(t *testing.T) {
	long := strings.Repeat("n", api.MaxName-3)
	h := full(t, api.MaxBoxes-2)
	checkCreate(t, h, "a/bcd", 0)
	type trial struct {
		s   string
		err api.Errno
	}
	froms := []trial{{"", api.ErrArg}, {"a/", api.ErrArg}, {"*", api.ErrArg}, {"b", api.ErrMissing}, {"a/c", api.ErrMissing}, {"INBOX/a", api.ErrMissing}}
	tos := []trial{{"", api.ErrArg}, {"/b", api.ErrArg}, {"b%", api.ErrArg}, {strings.Repeat("n", api.MaxName+1), api.ErrArg}, {"a/bcd/" + strings.Repeat("n", api.MaxName), api.ErrArg}, {"a", api.ErrTwice}, {"n1", api.ErrTwice}, {"inbox", api.ErrTwice}, {"a/bcd", api.ErrTwice}}
	for _, f := range froms {
		for _, to := range append(tos, trial{"q", 0}, trial{"a/q", 0}, trial{f.s, 0}) {
			checkRename(t, h, f.s, to.s, f.err)
		}
	}
	for _, name := range []string{"a", "a/bcd", "INBOX", "inBOX", "n3"} {
		for _, to := range tos {
			checkRename(t, h, name, to.s, to.err)
		}
	}
	// It would LIE in itself, ahead of a name too long, ahead of too many.
	checkRename(t, h, "a", "a/q", api.ErrState)
	checkRename(t, h, "a", "a/bcd/q", api.ErrState)
	checkRename(t, h, "a", "a/q/r/s", api.ErrState)
	checkRename(t, h, "a", "a/"+long[2:], api.ErrState)
	checkRename(t, h, "a", "a/q/"+long[4:], api.ErrState)
	checkRename(t, h, "a", long, api.ErrLimit)
	checkRename(t, h, "a", "q/"+long[2:], api.ErrLimit)
	checkRename(t, h, "a", "q/r", api.ErrFull)
	checkRename(t, h, "INBOX", "q", api.ErrFull)
	checkRename(t, h, "INBOX", "INBOX/q", api.ErrFull)
	// A name that is there is told ahead of all of these.
	checkRename(t, h, "a", "a", api.ErrTwice)
	checkRename(t, h, "a", "a/bcd", api.ErrTwice)
	// With no more room it goes all the same, if nothing is made.
	checkRename(t, h, "a", "q", 0)
	checkRename(t, h, "q", "inbox/q", 0)
	if got := len(h.Names()); got != api.MaxBoxes {
		t.Error(got)
	}
}

// TestRename: a box is itself, and those that LIE in it are, too (9.2).
func TestRename(t *testing.T) {
	h := houseOf(t, "a/b/c", "ab", "a/d", "x")
	put(t, h, "a", "of a")
	put(t, h, "a/b", "of b")
	put(t, h, "a/b/c", "of c")
	was, _ := h.Get("a/b")
	before := shown(h.Save())
	checkNumbers(t, h, "INBOX=1 a=2 a/b=3 a/b/c=4 a/d=6 ab=5 x=7")
	checkRename(t, h, "a", "z", 0)
	checkNumbers(t, h, "INBOX=1 ab=5 x=7 z=2 z/b=3 z/b/c=4 z/d=6")
	checkBox(t, h, "z", "2 2 1of a")
	checkBox(t, h, "z/b", "3 2 1of b")
	checkBox(t, h, "z/b/c", "4 2 1of c")
	if now, err := h.Get("z/b"); err != nil || now != was {
		t.Error("what is called otherwise is not itself")
	}
	for _, s := range []string{"a", "a/b", "a/b/c", "a/d"} {
		if _, err := h.Get(s); !isPlain(err, api.ErrMissing) {
			t.Errorf("%q is still there: %v", s, err)
		}
	}
	// Back again all is as it was.
	checkRename(t, h, "z", "a", 0)
	if got := shown(h.Save()); got != before {
		t.Errorf("back again: %s, not %s", got, before)
	}
	// Into another one that is there, with a longer and with a shorter name.
	checkRename(t, h, "a/b", "x/long name", 0)
	checkNumbers(t, h, "INBOX=1 a=2 a/d=6 ab=5 x=7 x/long name=3 x/long name/c=4")
	checkRename(t, h, "x/long name", "s", 0)
	checkNumbers(t, h, "INBOX=1 a=2 a/d=6 ab=5 s=3 s/c=4 x=7")
	// Out of what it LIES in.
	checkRename(t, h, "s/c", "c", 0)
	checkRename(t, h, "c", "s/c/c", 0)
	checkNumbers(t, h, "INBOX=1 a=2 a/d=6 ab=5 s=3 s/c=8 s/c/c=4 x=7")
	// A name that begins alike is no other's, and a part of a later place stays.
	checkRename(t, h, "x", "xx", 0)
	checkCreate(t, h, "a/a/a", 0)
	checkRename(t, h, "a", "aa", 0)
	checkNumbers(t, h, "INBOX=1 aa=2 aa/a=9 aa/a/a=10 aa/d=6 ab=5 s=3 s/c=8 s/c/c=4 xx=7")
	checkRename(t, h, "aa/a", "aa/d/aa/a", 0)
	checkNumbers(t, h, "INBOX=1 aa=2 aa/d=6 aa/d/aa=11 aa/d/aa/a=9 aa/d/aa/a/a=10 ab=5 s=3 s/c=8 s/c/c=4 xx=7")
}

// TestRenameMakes: those that it would LIE in are made, the shortest first, with new numbers (9.2).
func TestRenameMakes(t *testing.T) {
	h := houseOf(t, "a/b")
	put(t, h, "a", "m")
	checkRename(t, h, "a", "z/y/x/w", 0)
	checkNumbers(t, h, "INBOX=1 z=4 z/y=5 z/y/x=6 z/y/x/w=2 z/y/x/w/b=3")
	checkBox(t, h, "z/y/x/w", "2 2 1m")
	checkBox(t, h, "z/y/x", "6 1")
	checkRename(t, h, "z/y/x/w/b", "z/q/r", 0)
	checkNumbers(t, h, "INBOX=1 z=4 z/q=7 z/q/r=3 z/y=5 z/y/x=6 z/y/x/w=2")
	checkRename(t, h, "z/q", "inbox/i/q", 0)
	checkNumbers(t, h, "INBOX=1 INBOX/i=8 INBOX/i/q=7 INBOX/i/q/r=3 z=4 z/y=5 z/y/x=6 z/y/x/w=2")
	checkRename(t, h, "Inbox/i", "a/inbox", 0)
	checkNumbers(t, h, "INBOX=1 a=9 a/inbox=8 a/inbox/q=7 a/inbox/q/r=3 z=4 z/y=5 z/y/x=6 z/y/x/w=2")
	// In what it was called, when that is gone.
	checkRename(t, h, "z/y/x", "z/x", 0)
	checkRename(t, h, "z/y", "y", 0)
	checkRename(t, h, "y", "z/y/y", 0)
	checkNumbers(t, h, "INBOX=1 a=9 a/inbox=8 a/inbox/q=7 a/inbox/q/r=3 z=4 z/x=6 z/x/w=2 z/y=10 z/y/y=5")
}

// TestRenameLong: a name of just MaxName bytes, and of one more, it or one that LIES in it (9.2).
func TestRenameLong(t *testing.T) {
	for _, rest := range []string{"", "/b", "/bcd/e", "/" + strings.Repeat("é", 9)} {
		h := houseOf(t, "a"+rest, "ax")
		most := api.MaxName - len(rest)
		checkRename(t, h, "a", strings.Repeat("n", most), 0)
		checkRename(t, h, strings.Repeat("n", most), "a", 0)
		want := api.ErrLimit
		if rest == "" {
			want = api.ErrArg
		}
		checkRename(t, h, "a", strings.Repeat("n", most+1), want)
		checkRename(t, h, "a", "inbox/"+strings.Repeat("n", most-6), 0)
		checkRename(t, h, "INBOX/"+strings.Repeat("n", most-6), "b", 0)
		checkRename(t, h, "b", "inbox/"+strings.Repeat("n", most-5), want)
		checkRename(t, h, "b", "b2", 0)
	}
	// One that LIES beside it may be as long as it is.
	h := houseOf(t, "a/b", "ab"+strings.Repeat("n", api.MaxName-2))
	checkRename(t, h, "a", strings.Repeat("c", api.MaxName-2), 0)
	// Only the longest one of several gets too long; one that gets shorter may go.
	h = houseOf(t, "a/b", "a/cc", "a/d")
	checkRename(t, h, "a", strings.Repeat("n", api.MaxName-2), api.ErrLimit)
	checkRename(t, h, "a", strings.Repeat("n", api.MaxName-3), 0)
	checkRename(t, h, strings.Repeat("n", api.MaxName-3), "a", 0)
	// Of INBOX only its Letters go, whatever LIES in it.
	h = houseOf(t, "INBOX/"+strings.Repeat("n", api.MaxName-6))
	checkRename(t, h, "INBOX", strings.Repeat("m", api.MaxName), 0)
}

// TestRenameFull: MaxBoxes, by those that are made alone: what is called otherwise is not counted twice (9.2).
func TestRenameFull(t *testing.T) {
	for room := range 4 {
		for deep := range 6 {
			h := full(t, api.MaxBoxes-room-2)
			checkCreate(t, h, "a/b", 0)
			want := api.OK
			if deep > room {
				want = api.ErrFull
			}
			checkRename(t, h, "a", strings.Repeat("x/", deep)+"z", want)
			if want == 0 && len(h.Names()) != api.MaxBoxes-room+deep {
				t.Errorf("room for %d, %d made: %q", room, deep, h.Names())
			}
			// Of INBOX one more is made.
			h = full(t, api.MaxBoxes-room)
			put(t, h, "INBOX", "m")
			want = api.OK
			if deep+1 > room {
				want = api.ErrFull
			}
			checkRename(t, h, "INBOX", strings.Repeat("x/", deep)+"z", want)
		}
	}
}

// TestRenameInbox: a new box has its Letters and Next, with a new number; INBOX has its own yet, and no Letters (9.2).
func TestRenameInbox(t *testing.T) {
	h := houseOf(t, "inbox/x", "a")
	put(t, h, "INBOX", "one")
	put(t, h, "INBOX", "two")
	put(t, h, "INBOX/x", "of x")
	held, _ := h.Get("INBOX")
	checkRename(t, h, "inbox", "old/mail", 0)
	checkNumbers(t, h, "INBOX=1 INBOX/x=2 a=3 old=4 old/mail=5")
	checkBox(t, h, "INBOX", "1 3")
	checkBox(t, h, "old", "4 1")
	checkBox(t, h, "old/mail", "5 3 1one 2two")
	checkBox(t, h, "INBOX/x", "2 2 1of x")
	// INBOX is the box that it was, and no number of it comes again.
	if n, err := held.Append(nil, 1, "three"); n != 3 || err != nil {
		t.Error(n, err)
	}
	checkBox(t, h, "INBOX", "1 4 3three")
	checkBox(t, h, "old/mail", "5 3 1one 2two")
	put(t, h, "old/mail", "four")
	checkBox(t, h, "old/mail", "5 4 1one 2two 3four")
	checkBox(t, h, "INBOX", "1 4 3three")
	// It may go into a box that LIES in INBOX.
	checkRename(t, h, "INBOX", "InBoX/y/z", 0)
	checkNumbers(t, h, "INBOX=1 INBOX/x=2 INBOX/y=6 INBOX/y/z=7 a=3 old=4 old/mail=5")
	checkBox(t, h, "INBOX/y/z", "7 4 3three")
	checkBox(t, h, "INBOX", "1 4")
	// Without Letters a box is made all the same, with the next number.
	checkRename(t, h, "INBOX", "e", 0)
	checkBox(t, h, "e", "8 4")
	checkBox(t, h, "INBOX", "1 4")
	// A box is not called INBOX by that.
	checkRename(t, h, "e", "INBOX", api.ErrTwice)
	checkRename(t, h, "INBOX", "inbox", api.ErrTwice)
	checkRename(t, h, "INBOX", "INBOX/x", api.ErrTwice)
	// What LIES in it is called otherwise as any other one.
	checkRename(t, h, "INBOX/y", "y", 0)
	checkNumbers(t, h, "INBOX=1 INBOX/x=2 a=3 e=8 old=4 old/mail=5 y=6 y/z=7")
}

// TestRenameWants: WANTED names are names, not boxes: they stay, whatever becomes of the boxes.
func TestRenameWants(t *testing.T) {
	h := houseOf(t, "a/b")
	for _, n := range []string{"a", "a/b", "inbox"} {
		checkWant(t, h, n, true, 0)
	}
	checkRename(t, h, "a", "z", 0)
	checkRename(t, h, "INBOX", "y", 0)
	checkDelete(t, h, "z/b", 0)
	if got := h.List("*", true); !slices.Equal(got, []string{"INBOX", "a", "a/b"}) {
		t.Errorf("WANTED are %q", got)
	}
}

func TestWant(t *testing.T) {
	h := houseOf(t, "a")
	for _, s := range wrongNames {
		checkWant(t, h, s, true, api.ErrArg)
		checkWant(t, h, s, false, api.ErrArg)
	}
	checkWant(t, h, "a", false, api.ErrMissing)
	checkWant(t, h, "none/b", false, api.ErrMissing)
	for _, s := range []string{"none/b", "a", "inbox", "é", "a/b", "Inbox/q", "B"} {
		checkWant(t, h, s, true, 0)
	}
	want := []string{"B", "INBOX", "INBOX/q", "a", "a/b", "none/b", "é"}
	if got := h.Save().Wants; !slices.Equal(got, want) {
		t.Errorf("WANTED are %q, not %q", got, want)
	}
	// Twice is once.
	for _, s := range []string{"a", "INBOX", "iNbOx/q", "none/b", "é"} {
		checkWant(t, h, s, true, 0)
	}
	if got := h.Save().Wants; !slices.Equal(got, want) {
		t.Errorf("WANTED are %q, not %q", got, want)
	}
	// No box is made by that.
	checkNumbers(t, h, "INBOX=1 a=2")
	checkWant(t, h, "inbox", false, 0)
	checkWant(t, h, "none/b", false, 0)
	checkWant(t, h, "A", false, api.ErrMissing)
	checkWant(t, h, "none", false, api.ErrMissing)
	checkWant(t, h, "INBOX", false, api.ErrMissing)
	checkWant(t, h, "none/b", false, api.ErrMissing)
	if got := h.Save().Wants; !slices.Equal(got, []string{"B", "INBOX/q", "a", "a/b", "é"}) {
		t.Errorf("WANTED are %q", got)
	}
	checkNumbers(t, h, "INBOX=1 a=2")
	checkWant(t, h, "none/b", true, 0)
	if got := h.Save().Wants; !slices.Equal(got, []string{"B", "INBOX/q", "a", "a/b", "none/b", "é"}) {
		t.Errorf("WANTED are %q", got)
	}
}

// TestWantFull: twice MaxBoxes, and one more (9.2).
func TestWantFull(t *testing.T) {
	h := New()
	for i := range 2 * api.MaxBoxes {
		checkWant(t, h, "w"+strconv.Itoa(i), true, 0)
	}
	if got := len(h.Save().Wants); got != 2*api.MaxBoxes {
		t.Error(got)
	}
	checkWant(t, h, "x", true, api.ErrFull)
	checkWant(t, h, "INBOX", true, api.ErrFull)
	checkWant(t, h, "a", true, api.ErrFull)
	checkWant(t, h, "x/", true, api.ErrArg)
	checkWant(t, h, "w7", true, 0)
	checkWant(t, h, "x", false, api.ErrMissing)
	checkWant(t, h, "w7", false, 0)
	checkWant(t, h, "x", true, 0)
	checkWant(t, h, "w7", true, api.ErrFull)
	if g, err := Load(h.Save()); err != nil || shown(g.Save()) != shown(h.Save()) {
		t.Error("a house with all that may be WANTED is not Loaded:", err)
	}
}

func TestMatch(t *testing.T) {
	for _, c := range []struct {
		pattern, yes, no string // names, with | between
	}{
		{"", "", "a|/|*|%"},
		{"*", "|a|a/b|a/b/c|/|//|\xff|%|*|\n", ""},
		{"%", "|a|ab|*|%|\xff|é|\n", "/|a/|/a|a/b|a/b/c"},
		{"a", "a", "|A|b|aa|ab|ba|a/b"},
		{"a*", "a|ab|a/b|a/b/c|a*", "|b|ba|A"},
		{"a%", "a|ab|a%", "|b|ba|a/|a/b|ab/c"},
		{"*a", "a|ba|b/a|/a|aa", "|b|ab|a/b"},
		{"%a", "a|ba|aa|ana", "|b|ab|b/a|/a"},
		{"a*b", "ab|acb|a/b|a/c/b|abb|a*b|abab", "|a|b|aba|ba|a/bc"},
		{"a%b", "ab|acb|abb|a%b|abab", "|a|b|aba|ba|a/b|a/c/b|ab/b"},
		{"*/*", "/|a/|/b|a/b|a/b/c", "|a"},
		{"%/%", "/|a/|/b|a/b", "|a|a/b/c|//"},
		{"%/%/%", "//|a/b/c", "|a|a/b|a/b/c/d"},
		{"a/%", "a/|a/b", "a|ab|a/b/c|b/a"},
		{"a/*", "a/|a/b|a/b/c", "a|ab|b/a/c"},
		{"*b*", "b|ab|bc|abc|a/b/c|bb", "|a|B"},
		{"%b%", "b|ab|bc|abc", "|a|a/b|b/c|a/b/c"},
		{"*a*b*c*", "abc|xaxbxcx|a/b/c|aabbcc|cbabac", "|ab|acb|cba|bca"},
		{"%a%b%c%", "abc|xaxbxcx|aabbcc|ababac|acbabc", "|ab|acb|a/bc|ab/c"},
		{"**", "|a|a/b", ""},
		{"%%", "|a|ab", "/|a/b"},
		{"*%", "|a|a/b|/", ""},
		{"%*", "|a|a/b|/", ""},
		{"%%%%%a", "a|ba", "b|/a"},
		{"*%*%*a", "a|ba|b/a", "b|"},
		{"a%*b", "ab|a/b|axb", "a|b|ba"},
		{"*%a", "a|b/a|ba", "b|a/b|"},
		{"%a*", "a|ba|ab|a/b|ba/c", "b/a|/a|"},
		{"*a%", "a|b/a|ab|b/ac", "a/b|b"},
		{"a%/b", "a/b|ac/b", "a/c/b|ab|a//b"},
		{"*/a%", "/a|x/ab|x/y/a|/a/a", "a|a/a/b|x/b"},
		// The first place at which something fits is not always the one that leads on.
		{"*ab", "aab|abab|ab/ab", "aba|"},
		{"%ab%/c", "abxab/c|ab/c", "ab/ab/c|abc"},
		{"*a%b", "a/ab|a/b/axb|ab", "a/b|ab/"},
		// Letters great and small differ, INBOX's, too.
		{"inbox", "inbox", "INBOX|Inbox"},
		{"INBOX", "INBOX", "inbox|INBOX/a"},
		// Bytes, not letters of several; nothing else stands for others.
		{"\xc3%", "\xc3|é|\xc3\xa9", "|\xa9"},
		{"%\xa9", "é|\xa9|a\xa9", "\xc3|"},
		{".", ".", "a|"},
		{"?", "?", "a|"},
		{`\*`, `\|\a|\*`, "*|a|"},
		{"[a]", "[a]", "a"},
		{"a/", "a/", "a|a/b"},
		{"\x00%", "\x00|\x00a", "a|"},
	} {
		for _, name := range strings.Split(c.yes, "|") {
			if !Match(c.pattern, name) {
				t.Errorf("%q is not as %q", name, c.pattern)
			}
		}
		if c.no == "" {
			continue
		}
		for _, name := range strings.Split(c.no, "|") {
			if Match(c.pattern, name) {
				t.Errorf("%q is as %q", name, c.pattern)
			}
		}
	}
}

// secondMatch is a second reading of Match: all that * and % may stand for is tried.
func secondMatch(pattern, name string) bool {
	if pattern == "" {
		return name == ""
	}
	if pattern[0] != '*' && pattern[0] != '%' {
		return name != "" && name[0] == pattern[0] && secondMatch(pattern[1:], name[1:])
	}
	for i := 0; i <= len(name); i++ {
		if secondMatch(pattern[1:], name[i:]) {
			return true
		}
		if i < len(name) && pattern[0] == '%' && name[i] == '/' {
			return false
		}
	}
	return false
}

// TestMatchEvery: all short patterns and names.
func TestMatchEvery(t *testing.T) {
	var names []string
	every("ab/", 5, func(s string) { names = append(names, s) })
	names = append(names, "*", "%", "a*", "%/*")
	every("ab/%*", 5, func(pattern string) {
		for _, n := range names {
			if got, want := Match(pattern, n), secondMatch(pattern, n); got != want {
				t.Errorf("Match(%q, %q) = %v", pattern, n, got)
			}
		}
	})
}

// TestMatchDrawn: longer ones.
func TestMatchDrawn(t *testing.T) {
	r := rand.New(rand.NewSource(9))
	yes := 0
	for range 60000 {
		var pattern, name []byte
		for range r.Intn(12) {
			pattern = append(pattern, "aab/%%*"[r.Intn(7)])
		}
		for range r.Intn(14) {
			name = append(name, "aaab/"[r.Intn(5)])
		}
		got, want := Match(string(pattern), string(name)), secondMatch(string(pattern), string(name))
		if got != want {
			t.Errorf("Match(%q, %q) = %v", pattern, name, got)
		}
		if want {
			yes++
		}
	}
	if yes < 1000 {
		t.Error("only", yes, "are as they are asked")
	}
}

// TestMatchEnds: what could be tried in very many ways is answered soon (P1).
func TestMatchEnds(t *testing.T) {
	start := time.Now()
	long := strings.Repeat("a", 2000)
	for _, pattern := range []string{strings.Repeat("*a", 500) + "b", strings.Repeat("%a", 500) + "b", strings.Repeat("%a*", 400) + "b", strings.Repeat("*", 2000) + "b", strings.Repeat("%*", 1000) + "b"} {
		if Match(pattern, long) || !Match(pattern, long+"b") {
			t.Errorf("%.20q..", pattern)
		}
	}
	if Match("", strings.Repeat("a", 1<<22)) || !Match("*", strings.Repeat("/", 1<<22)) || Match(strings.Repeat("a", 1<<22), "a") || !Match(strings.Repeat("%", 1<<22), "") {
		t.Error("long ones")
	}
	if took := time.Since(start); took > 20*time.Second {
		t.Error("it took", took)
	}
}

// TestList: of Names, and of those that are WANTED, in order (9.3).
func TestList(t *testing.T) {
	h := houseOf(t, "b/x", "a/b/c", "ab", "é", "inbox/x")
	for _, n := range []string{"z/y", "b", "a/b", "inbox", "a", "Inbox/q"} {
		checkWant(t, h, n, true, 0)
	}
	before := shown(h.Save())
	for _, c := range []struct {
		pattern      string
		boxes, wants string
	}{
		{"*", "INBOX INBOX/x a a/b a/b/c ab b b/x é", "INBOX INBOX/q a a/b b z/y"},
		{"%", "INBOX a ab b é", "INBOX a b"},
		{"a*", "a a/b a/b/c ab", "a a/b"},
		{"a%", "a ab", "a"},
		{"%/%", "INBOX/x a/b b/x", "INBOX/q a/b z/y"},
		{"*/x", "INBOX/x b/x", ""},
		{"%/y", "", "z/y"},
		{"a", "a", "a"},
		{"", "", ""},
		{"none", "", ""},
		{"INBOX*", "INBOX INBOX/x", "INBOX INBOX/q"},
		{"inbox*", "", ""},
		{"/*", "", ""},
		{"*/", "", ""},
		{"\xff", "", ""},
		{"%\xa9", "é", ""},
	} {
		if got := strings.Join(h.List(c.pattern, false), " "); got != c.boxes {
			t.Errorf("List(%q, false) = %s, not %s", c.pattern, got, c.boxes)
		}
		if got := strings.Join(h.List(c.pattern, true), " "); got != c.wants {
			t.Errorf("List(%q, true) = %s, not %s", c.pattern, got, c.wants)
		}
	}
	if got := shown(h.Save()); got != before {
		t.Errorf("List changed %s to %s", before, got)
	}
}

// sample is what a house may have: boxes in one another, messages, names that are wanted.
func sample() Saved {
	return Saved{
		Names: []string{"B", "INBOX", "INBOX/x", "a", "a/b", "a/b/c", "é"},
		Boxes: []box.Box{
			{Valid: 5, Next: 1},
			{Valid: 1, Next: 9, Letters: []api.Letter{{UID: 2, Flags: []string{`\Seen`, "k"}, Day: 4, Text: "two"}, {UID: 8, Text: "eight"}}},
			{Valid: 19, Next: 2},
			{Valid: 2, Next: 2, Letters: []api.Letter{{UID: 1, Flags: []string{`\Deleted`}, Day: api.MaxNumber, Text: "\x00\xff"}}},
			{Valid: 7, Next: api.MaxNumber},
			{Valid: 4, Next: 1},
			{Valid: 3, Next: 1},
		},
		Wants: []string{"INBOX", "INBOX/q", "a/b", "z/y/x"},
		Next:  20,
	}
}

// many is a house of so many boxes and so many names that are wanted.
func many(boxes, wants int) Saved {
	s := Saved{Next: 1}
	add := func(n string) {
		s.Names, s.Boxes = append(s.Names, n), append(s.Boxes, box.Box{Valid: s.Next, Next: 1})
		s.Next++
	}
	if boxes > 0 {
		add("INBOX")
	}
	for i := range boxes - 1 {
		add("a" + strconv.Itoa(1000+i))
	}
	for i := range wants {
		s.Wants = append(s.Wants, "w"+strconv.Itoa(1000+i))
	}
	return s
}

// checkRight holds Right, and Load, against what is wanted.
func checkRight(t *testing.T, what string, s Saved, want bool) {
	t.Helper()
	before := shown(s)
	if got := Right(s); got != want {
		t.Errorf("%s: Right = %v: %s", what, got, before)
	}
	h, err := Load(s)
	if want && (err != nil || h == nil || shown(h.Save()) != before) {
		t.Errorf("%s: Load: %v, %v: %s", what, h, err, before)
	}
	if !want && (h != nil || !isPlain(err, api.ErrArg)) {
		t.Errorf("%s: Load = %v, %v: %s", what, h, err, before)
	}
	if shown(s) != before {
		t.Errorf("%s: it is %s, not %s any more", what, shown(s), before)
	}
}

// TestRightSample: what is right, each thing that Right asks just kept (9.4).
func TestRightSample(t *testing.T) {
	checkRight(t, "sample", sample(), true)
	checkRight(t, "new", New().Save(), true)
	checkRight(t, "none", Saved{}, false)
	checkRight(t, "none, with Next", Saved{Next: 1}, false)
	checkRight(t, "one", many(1, 0), true)
	checkRight(t, "all that may be", many(api.MaxBoxes, 2*api.MaxBoxes), true)
	checkRight(t, "few boxes, all wanted", many(1, 2*api.MaxBoxes), true)
	checkRight(t, "a box more", many(api.MaxBoxes+1, 0), false)
	checkRight(t, "a wanted one more", many(1, 2*api.MaxBoxes+1), false)
	checkRight(t, "a wanted one more, and all boxes", many(api.MaxBoxes, 2*api.MaxBoxes+1), false)
	checkRight(t, "very many", many(5000, 5000), false)
	checkRight(t, "no box, wanted", many(0, 3), false)
	empty := many(1, 0)
	empty.Wants, empty.Boxes[0].Letters = []string{}, []api.Letter{}
	checkRight(t, "lists that are not nil", empty, true)
}

// TestRightChanged: of one that is right, one thing is changed (9.4).
func TestRightChanged(t *testing.T) {
	for _, c := range []struct {
		what string
		want bool
		do   func(s *Saved)
	}{
		{"a box less", false, func(s *Saved) { s.Boxes = s.Boxes[:6] }},
		{"a name less", false, func(s *Saved) { s.Names = s.Names[:6] }},
		{"both less", true, func(s *Saved) { s.Names, s.Boxes = s.Names[:6], s.Boxes[:6] }},
		{"a box more", false, func(s *Saved) { s.Boxes = append(s.Boxes, box.Box{Valid: 8, Next: 1}) }},
		{"a name more", false, func(s *Saved) { s.Names = append(s.Names, "ê") }},
		{"both more", true, func(s *Saved) {
			s.Names, s.Boxes = append(s.Names, "ê"), append(s.Boxes, box.Box{Valid: 8, Next: 1})
		}},
		{"no boxes", false, func(s *Saved) { s.Boxes = nil }},
		{"no names", false, func(s *Saved) { s.Names = nil }},
		{"nothing but wants", false, func(s *Saved) { s.Names, s.Boxes = nil, nil }},

		{"two names change places", false, func(s *Saved) { s.Names[0], s.Names[1] = s.Names[1], s.Names[0] }},
		{"the last two change places", false, func(s *Saved) { s.Names[5], s.Names[6] = s.Names[6], s.Names[5] }},
		{"a name twice", false, func(s *Saved) { s.Names[6] = s.Names[5] }},
		{"INBOX twice", false, func(s *Saved) { s.Names[0] = "INBOX" }},
		{"another name in its place", true, func(s *Saved) { s.Names[0] = "C" }},
		{"another name out of its place", false, func(s *Saved) { s.Names[0] = "b" }},
		{"a name that is none", false, func(s *Saved) { s.Names[0] = "" }},
		{"a name with %", false, func(s *Saved) { s.Names[0] = "B%" }},
		{"a name with *", false, func(s *Saved) { s.Names[0] = "*" }},
		{"a name with / at its end", false, func(s *Saved) { s.Names[4] = "a/" }},
		{"a name with / ahead", false, func(s *Saved) { s.Names[0] = "/B" }},
		{"a name with a line feed", false, func(s *Saved) { s.Names[0] = "B\n" }},
		{"a name that is no UTF-8", false, func(s *Saved) { s.Names[6] = "\xff" }},
		{"a name of MaxName bytes", true, func(s *Saved) { s.Names[6] = strings.Repeat("é", api.MaxName/2) }},
		{"a name of more", false, func(s *Saved) { s.Names[6] = strings.Repeat("é", api.MaxName/2) + "a" }},
		{"inbox in small letters", false, func(s *Saved) { s.Names[6] = "inbox" }},
		{"a first part inbox in small letters", false, func(s *Saved) { s.Names[2] = "Inbox/x" }},
		{"a later part inbox in small letters", true, func(s *Saved) { s.Names[2] = "INBOX/inbox" }},
		{"no INBOX", false, func(s *Saved) { s.Names[1], s.Names[2] = "INBO", "INBOW" }},
		{"no INBOX, but in it", false, func(s *Saved) { s.Names[1] = "INBO" }},
		{"no a", false, func(s *Saved) { s.Names[3] = "Z" }},
		{"no a/b", false, func(s *Saved) { s.Names[4] = "a/a" }},
		{"a/c in no a/b's place", true, func(s *Saved) { s.Names[5] = "a/c" }},
		{"one in what is not there", false, func(s *Saved) { s.Names[6] = "é/a" }},
		{"one in what begins alike", false, func(s *Saved) { s.Names[6] = "ab/c" }},
		{"one in what is only wanted", false, func(s *Saved) { s.Names[6] = "z/y/x/w" }},

		{"wants change places", false, func(s *Saved) { s.Wants[0], s.Wants[1] = s.Wants[1], s.Wants[0] }},
		{"a want twice", false, func(s *Saved) { s.Wants[2] = s.Wants[3] }},
		{"a want out of its place", false, func(s *Saved) { s.Wants[3] = "A" }},
		{"a want that is no name", false, func(s *Saved) { s.Wants[3] = "z*" }},
		{"a want with / at its end", false, func(s *Saved) { s.Wants[3] = "z/" }},
		{"an empty want", false, func(s *Saved) { s.Wants = []string{""} }},
		{"a want inbox in small letters", false, func(s *Saved) { s.Wants = []string{"inbox"} }},
		{"a want in inbox in small letters", false, func(s *Saved) { s.Wants = []string{"inbox/q"} }},
		{"a want too long", false, func(s *Saved) { s.Wants[3] = strings.Repeat("z", api.MaxName+1) }},
		{"a want as long as may be", true, func(s *Saved) { s.Wants[3] = strings.Repeat("z", api.MaxName) }},
		{"no wants", true, func(s *Saved) { s.Wants = nil }},

		{"a Valid of 0", false, func(s *Saved) { s.Boxes[3].Valid = 0 }},
		{"a Valid below 0", false, func(s *Saved) { s.Boxes[3].Valid = -1 }},
		{"a Valid just below Next", true, func(s *Saved) { s.Boxes[2].Valid = 19 }},
		{"a Valid that is Next", false, func(s *Saved) { s.Boxes[2].Valid = 20 }},
		{"a Valid above Next", false, func(s *Saved) { s.Boxes[6].Valid = 21 }},
		{"a Valid twice", false, func(s *Saved) { s.Boxes[6].Valid = 5 }},
		{"INBOX's Valid twice", false, func(s *Saved) { s.Boxes[4].Valid = 1 }},
		{"another INBOX's Valid", true, func(s *Saved) { s.Boxes[1].Valid = 11 }},
		{"Next of a box 0", false, func(s *Saved) { s.Boxes[6].Next = 0 }},
		{"a UID that is Next", false, func(s *Saved) { s.Boxes[1].Next = 8 }},
		{"UIDs that do not rise", false, func(s *Saved) { s.Boxes[1].Letters[1].UID = 2 }},
		{"Flags that are no Set", false, func(s *Saved) { s.Boxes[1].Letters[0].Flags = []string{"k", `\Seen`} }},
		{"a Day below 0", false, func(s *Saved) { s.Boxes[1].Letters[0].Day = -1 }},
		{"a Text too long", false, func(s *Saved) { s.Boxes[1].Letters[0].Text = strings.Repeat("x", api.MaxMessage+1) }},
		{"a Text as long as may be", true, func(s *Saved) { s.Boxes[1].Letters[0].Text = strings.Repeat("x", api.MaxMessage) }},
		{"a zero Box", false, func(s *Saved) { s.Boxes[6] = box.Box{} }},

		{"Next just above all", true, func(s *Saved) { s.Boxes[2].Valid, s.Next = 6, 8 }},
		{"Next that one has", false, func(s *Saved) { s.Boxes[2].Valid, s.Next = 6, 7 }},
		{"Next 0", false, func(s *Saved) { s.Next = 0 }},
		{"Next below 0", false, func(s *Saved) { s.Next = math.MinInt }},
		{"the last Next", true, func(s *Saved) { s.Next = api.MaxNumber }},
		{"the last Next, and the last Valid", true, func(s *Saved) { s.Next, s.Boxes[6].Valid = api.MaxNumber, api.MaxNumber-1 }},
		{"a Valid that is the last Next", false, func(s *Saved) { s.Next, s.Boxes[6].Valid = api.MaxNumber, api.MaxNumber }},
	} {
		s := sample()
		c.do(&s)
		checkRight(t, c.what, s, c.want)
	}
}

// TestRightBeyond: a Next of one more than there are, where a number may be so great.
func TestRightBeyond(t *testing.T) {
	beyond := int64(api.MaxNumber) + 1
	if int64(int(beyond)) != beyond {
		t.Skip("no number is so great here")
	}
	for _, next := range []int{int(beyond), math.MaxInt} {
		s := sample()
		s.Next = next
		checkRight(t, "Next beyond", s, false)
		s.Boxes[6].Valid = int(beyond)
		checkRight(t, "Valid beyond", s, false)
	}
}

// TestLastNumbers: no sentence says that numbers of boxes end: the next one has the next number, though what is Saved is not Right then.
func TestLastNumbers(t *testing.T) {
	beyond := int64(api.MaxNumber) + 1
	if int64(int(beyond)) != beyond {
		t.Skip("no number is so great here")
	}
	s := many(1, 0)
	s.Next = api.MaxNumber - 1
	h, err := Load(s)
	if err != nil {
		t.Fatal(err)
	}
	checkCreate(t, h, "a", 0)
	checkBox(t, h, "a", strconv.Itoa(api.MaxNumber-1)+" 1")
	if err := h.Create("b"); err != nil {
		t.Error(err)
	}
	checkBox(t, h, "b", strconv.Itoa(api.MaxNumber)+" 1")
	if got := h.Save(); got.Next != int(beyond) || Right(got) {
		t.Errorf("behind the last number: %s", shown(got))
	}
}

// TestLoadOwn: what is done to a house is not done to what it was Loaded from, nor the other way round (9.4, P4).
func TestLoadOwn(t *testing.T) {
	s := sample()
	was := shown(s)
	h, err := Load(s)
	if err != nil {
		t.Fatal(err)
	}
	put(t, h, "INBOX", "new")
	b, _ := h.Get("a")
	if err := b.Flag(1, box.More, []string{"z"}); err != nil {
		t.Error(err)
	}
	b.Expunge(func(int) bool { return true })
	in, _ := h.Get("INBOX")
	in.Letters[0].Text, in.Letters[0].Flags[0] = "written", "written"
	for _, err := range []error{h.Create("q/r"), h.Delete("B"), h.Rename("a", "aa"), h.Rename("INBOX", "old"), h.Want("a/b", false), h.Want("A", true)} {
		if err != nil {
			t.Error(err)
		}
	}
	if shown(s) != was {
		t.Errorf("what was Loaded is %s, not %s", shown(s), was)
	}
	h, _ = Load(s)
	other, _ := Load(s)
	put(t, other, "INBOX", "new")
	s.Names[0], s.Wants[0], s.Boxes[1].Next, s.Next = "C", "A", 50, 60
	s.Boxes[1].Letters[0].Text, s.Boxes[1].Letters[0].Flags[0] = "written", "written"
	if got := shown(h.Save()); got != was {
		t.Errorf("the house is %s, not %s", got, was)
	}
}

// room is a list with room behind it, and words in that room that nobody may write into.
func room(l []string) []string { return append(slices.Clone(l), "room", "room", "room")[:len(l)] }

// TestLoadRoom: nothing is written behind a list's length (P4).
func TestLoadRoom(t *testing.T) {
	s := sample()
	s.Names, s.Wants = room(s.Names), room(s.Wants)
	s.Boxes = append(s.Boxes, box.Box{Valid: 77})[:len(s.Boxes)]
	letters := append(s.Boxes[1].Letters, api.Letter{UID: 77})
	s.Boxes[1].Letters = letters[:2]
	h, err := Load(s)
	if err != nil {
		t.Fatal(err)
	}
	put(t, h, "INBOX", "new")
	for _, err := range []error{h.Want("zz", true), h.Create("zz"), h.Want("B", true), h.Want("zz", false), h.Delete("zz")} {
		if err != nil {
			t.Error(err)
		}
	}
	for _, l := range [][]string{s.Names, s.Wants} {
		if behind := l[:len(l)+3][len(l):]; !slices.Equal(behind, []string{"room", "room", "room"}) {
			t.Errorf("behind %q stand %q", l, behind)
		}
	}
	if letters[2].UID != 77 || s.Boxes[:8][7].Valid != 77 {
		t.Error("something was written behind a list")
	}
}

// TestAnswersFresh: what comes out is the caller's (P4).
func TestAnswersFresh(t *testing.T) {
	h, err := Load(sample())
	if err != nil {
		t.Fatal(err)
	}
	was := shown(sample())
	for _, l := range [][]string{h.Names(), h.List("*", false), h.List("*", true), h.List("a*", true)} {
		for i := range l {
			l[i] = "written"
		}
		_ = append(l[:0], "w", "w")
	}
	s := h.Save()
	for i := range s.Names {
		s.Names[i] = "written"
	}
	for i := range s.Wants {
		s.Wants[i] = "written"
	}
	for i := range s.Boxes {
		for j := range s.Boxes[i].Letters {
			l := &s.Boxes[i].Letters[j]
			for k := range l.Flags {
				l.Flags[k] = "written"
			}
			l.UID, l.Text = 99, "written"
		}
		s.Boxes[i].Letters = append(s.Boxes[i].Letters, api.Letter{UID: 98})
		s.Boxes[i].Valid = 99
	}
	if got := shown(h.Save()); got != was {
		t.Errorf("the house is %s, not %s", got, was)
	}
	// What was Saved stays as it was, whatever is done in the house.
	s = h.Save()
	put(t, h, "INBOX", "new")
	in, _ := h.Get("INBOX")
	in.Letters[0].Day, in.Letters[0].Flags[0] = 9, "written"
	for _, err := range []error{h.Want("a/b", false), h.Want("A", true), h.Rename("INBOX", "A"), h.Rename("a", "c"), h.Delete("B")} {
		if err != nil {
			t.Error(err)
		}
	}
	if shown(s) != was {
		t.Errorf("what was Saved is %s, not %s", shown(s), was)
	}
}

// second is a second reading of a house: boxes in no order, and what is wanted as what is so.
type second struct {
	boxes []secondBox
	wants map[string]bool
	next  int
}

type secondBox struct {
	name        string
	valid, next int
	letters     []string
}

func newSecond() *second {
	return &second{[]secondBox{{"INBOX", 1, 1, nil}}, map[string]bool{}, 2}
}

func (s *second) find(name string) int {
	for i, b := range s.boxes {
		if b.name == name {
			return i
		}
	}
	return -1
}

// parents are all that a name would LIE in, the shortest first.
func parents(name string) []string {
	parts := strings.Split(name, "/")
	var out []string
	for i := 1; i < len(parts); i++ {
		out = append(out, strings.Join(parts[:i], "/"))
	}
	return out
}

// make makes those of names that are not there; false: there would be too many.
func (s *second) make(names []string) bool {
	var new []secondBox
	next := s.next
	for _, n := range names {
		if s.find(n) < 0 {
			new = append(new, secondBox{n, next, 1, nil})
			next++
		}
	}
	if len(s.boxes)+len(new) > 30 {
		return false
	}
	s.boxes, s.next = append(s.boxes, new...), next
	return true
}

func (s *second) create(name string) api.Errno {
	n, ok := secondName(name)
	switch {
	case !ok:
		return api.ErrArg
	case s.find(n) >= 0:
		return api.ErrTwice
	case !s.make(append(parents(n), n)):
		return api.ErrFull
	}
	return 0
}

func (s *second) delete(name string) api.Errno {
	n, ok := secondName(name)
	if !ok {
		return api.ErrArg
	}
	i := s.find(n)
	if i < 0 {
		return api.ErrMissing
	}
	for _, b := range s.boxes {
		if n == "INBOX" || slices.Contains(parents(b.name), n) {
			return api.ErrState
		}
	}
	s.boxes = slices.Delete(s.boxes, i, i+1)
	return 0
}

func (s *second) rename(name, to string) api.Errno {
	n, ok := secondName(name)
	if !ok {
		return api.ErrArg
	}
	i := s.find(n)
	if i < 0 {
		return api.ErrMissing
	}
	m, ok := secondName(to)
	if !ok {
		return api.ErrArg
	}
	if s.find(m) >= 0 {
		return api.ErrTwice
	}
	if n == "INBOX" {
		if !s.make(append(parents(m), m)) {
			return api.ErrFull
		}
		j := s.find(m)
		s.boxes[j].letters, s.boxes[j].next = s.boxes[i].letters, s.boxes[i].next
		s.boxes[i].letters = nil
		return 0
	}
	if slices.Contains(parents(m), n) {
		return api.ErrState
	}
	now := slices.Clone(s.boxes)
	for j, b := range now {
		if b.name == n || slices.Contains(parents(b.name), n) {
			now[j].name = m + b.name[len(n):]
			if len(now[j].name) > 60 {
				return api.ErrLimit
			}
		}
	}
	was := s.boxes
	s.boxes = now
	if !s.make(parents(m)) {
		s.boxes = was
		return api.ErrFull
	}
	return 0
}

func (s *second) want(name string, on bool) api.Errno {
	n, ok := secondName(name)
	switch {
	case !ok:
		return api.ErrArg
	case !on && !s.wants[n]:
		return api.ErrMissing
	case on && !s.wants[n] && len(s.wants) == 60:
		return api.ErrFull
	case on:
		s.wants[n] = true
	default:
		delete(s.wants, n)
	}
	return 0
}

// put lays a message into a box: its number.
func (s *second) put(name, text string) (int, api.Errno) {
	n, ok := secondName(name)
	if !ok {
		return 0, api.ErrArg
	}
	i := s.find(n)
	if i < 0 {
		return 0, api.ErrMissing
	}
	s.boxes[i].letters = append(slices.Clone(s.boxes[i].letters), fmt.Sprint(s.boxes[i].next, text))
	s.boxes[i].next++
	return s.boxes[i].next - 1, 0
}

// shown is all that a second reading has, as a text.
func (s *second) shown() string {
	boxes := slices.Clone(s.boxes)
	sort.Slice(boxes, func(i, j int) bool { return boxes[i].name < boxes[j].name })
	wants := []string{}
	for n := range s.wants {
		wants = append(wants, n)
	}
	sort.Strings(wants)
	out := fmt.Sprintf("%d %q", s.next, wants)
	for _, b := range boxes {
		out += fmt.Sprintf(" {%q %d %d %q}", b.name, b.valid, b.next, b.letters)
	}
	return out
}

// asSecond is all that is saved, as a second reading shows it.
func asSecond(s Saved) string {
	out := fmt.Sprintf("%d %q", s.Next, s.Wants)
	for i, b := range s.Boxes {
		letters := []string{}
		for _, l := range b.Letters {
			letters = append(letters, fmt.Sprint(l.UID, l.Text))
		}
		out += fmt.Sprintf(" {%q %d %d %q}", s.Names[i], b.Valid, b.Next, letters)
	}
	return out
}

// call is something that is done to a house.
type call struct {
	kind     int
	name, to string
}

// do does it to a house, and to its second reading, and holds what they answer, and what they are then, against one another: the house then, and what was told.
func (c call) do(t *testing.T, h *House, s *second) (*House, api.Errno) {
	t.Helper()
	var got error
	var want api.Errno
	before := shown(h.Save())
	switch c.kind {
	case 0, 1, 2:
		got, want = h.Create(c.name), s.create(c.name)
	case 3:
		got, want = h.Delete(c.name), s.delete(c.name)
	case 4, 5, 6:
		got, want = h.Rename(c.name, c.to), s.rename(c.name, c.to)
	case 7:
		got, want = h.Want(c.name, true), s.want(c.name, true)
	case 8:
		got, want = h.Want(c.name, false), s.want(c.name, false)
	case 9:
		var b *box.Box
		var n, m int
		if b, got = h.Get(c.name); got == nil {
			n, got = b.Append(nil, 0, c.to)
		}
		if m, want = s.put(c.name, c.to); m != n {
			t.Errorf("%.300q: the number %d, not %d", fmt.Sprint(c), n, m)
		}
	default:
		var g *House
		if g, got = Load(h.Save()); got == nil {
			h = g
		}
	}
	after := h.Save()
	if !isPlain(got, want) || want != 0 && shown(after) != before {
		t.Errorf("%.300q: %v, not %d: %.2000s", fmt.Sprint(c), got, want, shown(after))
	}
	if asSecond(after) != s.shown() || !Right(after) {
		t.Fatalf("%.300q: %.2000s, not %.2000s", fmt.Sprint(c), asSecond(after), s.shown())
	}
	return h, want
}

// checkListed holds what is listed against a second reading.
func checkListed(t *testing.T, h *House, pattern string) {
	t.Helper()
	s := h.Save()
	for _, c := range []struct {
		all    []string
		wanted bool
	}{{s.Names, false}, {s.Wants, true}} {
		var want []string
		for _, n := range c.all {
			if secondMatch(pattern, n) {
				want = append(want, n)
			}
		}
		if got := h.List(pattern, c.wanted); !slices.Equal(got, want) {
			t.Errorf("List(%q, %v) = %q, not %q", pattern, c.wanted, got, want)
		}
	}
}

// drawnName is a name, mostly a right one.
func drawnName(r *rand.Rand) string {
	if r.Intn(30) == 0 {
		return wrongNames[r.Intn(len(wrongNames))]
	}
	words := []string{"a", "b", "c", "a", "b", "inbox", "INBOX", "é", "ab", strings.Repeat("n", 25), strings.Repeat("n", 52)}
	out := words[r.Intn(len(words))]
	for r.Intn(2) == 0 {
		out += "/" + words[r.Intn(len(words))]
	}
	return out
}

// TestDrawn: drawn calls, held against a second reading; all that a house becomes is Right, and lives again.
func TestDrawn(t *testing.T) {
	r := rand.New(rand.NewSource(26))
	told := map[[2]int]int{}
	for round := range 600 {
		h, s := New(), newSecond()
		for step := range 40 {
			c := call{r.Intn(11), drawnName(r), drawnName(r)}
			if c.kind == 9 {
				c.to = "m" + strconv.Itoa(step)
			}
			if round%3 == 0 && step < 25 {
				c = call{0, "f" + strconv.Itoa(step), ""}
			}
			if r.Intn(2) == 0 && c.kind > 2 && c.kind < 10 {
				names := h.Names()
				c.name = names[r.Intn(len(names))]
			}
			var e api.Errno
			h, e = c.do(t, h, s)
			told[[2]int{c.kind, int(e)}]++
		}
		checkListed(t, h, []string{"*", "%", "a*", "%/%", "*/inbox*", "a%b", ""}[round%7])
	}
	for kind, errs := range map[int][]api.Errno{
		0: {0, api.ErrArg, api.ErrTwice, api.ErrFull},
		3: {0, api.ErrArg, api.ErrMissing, api.ErrState},
		4: {0, api.ErrArg, api.ErrMissing, api.ErrTwice, api.ErrState, api.ErrLimit, api.ErrFull},
		7: {0, api.ErrArg},
		8: {0, api.ErrArg, api.ErrMissing},
		9: {0, api.ErrArg, api.ErrMissing},
	} {
		for _, e := range errs {
			if told[[2]int{kind, int(e)}] == 0 {
				t.Errorf("the call %d never told %d", kind, e)
			}
		}
	}
}

// TestEveryCall: all ways to do three of some calls, of few names that lie in one another.
func TestEveryCall(t *testing.T) {
	names := []string{"a", "a/b", "b", "inbox", "INBOX/a"}
	var calls []call
	for _, n := range names {
		for _, kind := range []int{0, 3, 9} {
			calls = append(calls, call{kind, n, "m"})
		}
		for _, to := range names {
			calls = append(calls, call{4, n, to})
		}
	}
	for _, a := range calls {
		for _, b := range calls {
			for _, c := range calls {
				h, s := New(), newSecond()
				for _, x := range []call{{0, "a/b", ""}, a, b, c} {
					h, _ = x.do(t, h, s)
				}
			}
		}
	}
}

// TestThereAndBack: what is called otherwise, and then again as it was, is as it was, if nothing was made for it.
func TestThereAndBack(t *testing.T) {
	r := rand.New(rand.NewSource(3))
	back := 0
	for range 3000 {
		h := New()
		for range 6 {
			_ = h.Create(drawnName(r))
		}
		names := h.Names()
		name, to := names[r.Intn(len(names))], drawnName(r)
		before := h.Save()
		if name == "INBOX" || h.Rename(name, to) != nil || len(h.Names()) != len(names) {
			continue
		}
		back++
		if err := h.Rename(to, name); err != nil || !reflect.DeepEqual(h.Save(), before) {
			t.Errorf("%q, there to %q and back: %v, %s, not %s", name, to, err, shown(h.Save()), shown(before))
		}
	}
	if back < 300 {
		t.Error("only", back, "came back")
	}
}

// FuzzHouse: any names and patterns, wrong ones, too: calls end, and answer as a second reading does.
func FuzzHouse(f *testing.F) {
	f.Add("a/b", "inbox/c", "%/*", uint64(0x0123456789a))
	f.Add("INBOX", "old/mail", "*", uint64(0x44904))
	f.Add("a//b", "\xff", "%%", uint64(0x703))
	f.Fuzz(func(t *testing.T, name, to, pattern string, kinds uint64) {
		checkName(t, name)
		checkName(t, to)
		if len(pattern) < 12 && len(name) < 20 {
			if got := Match(pattern, name); got != secondMatch(pattern, name) {
				t.Errorf("Match(%q, %q) = %v", pattern, name, got)
			}
		}
		h, s := New(), newSecond()
		names := []string{name, to, name + "/" + to, to + "/a", "inbox"}
		for i := range 16 {
			kind := int(kinds >> (4 * i) & 15)
			c := call{kind % 11, names[(i+kind)%5], names[(i*kind+1)%5]}
			if c.kind == 9 {
				c.to = "m"
			}
			h, _ = c.do(t, h, s)
		}
		if len(pattern) < 12 {
			checkListed(t, h, pattern)
		}
	})
}
