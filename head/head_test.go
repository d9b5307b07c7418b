package head

import (
	"errors"
	"math/rand"
	"slices"
	"strconv"
	"strings"
	"testing"
	"time"

	"letterbox/api"
)

// at is an error as it is told: its Errno, and its place (-1: it has none).
type at struct {
	e     api.Errno
	place int
}

// fine is no error.
var fine = at{api.OK, -1}

// tell takes an error apart.
func tell(err error) at {
	var a *api.At
	if errors.As(err, &a) {
		if api.Tell(err) != a.Err {
			return at{-1, a.Place}
		}
		return at{a.Err, a.Place}
	}
	return at{api.Tell(err), -1}
}

// fields are Names and Values, by turns.
func fields(l ...string) []api.Field {
	var out []api.Field
	for i := 0; i < len(l); i += 2 {
		out = append(out, api.Field{Name: l[i], Value: l[i+1]})
	}
	return out
}

// checkFields holds what Fields tells against what is wanted (with an error: nothing).
func checkFields(t *testing.T, s string, want []api.Field, e at) {
	t.Helper()
	if got, err := Fields(s); !slices.Equal(got, want) || tell(err) != e {
		t.Errorf("Fields(%.300q) = %.300q, %v, not %.300q, %v", s, got, tell(err), want, e)
	}
}

// checkForm wants ErrForm at a piece.
func checkForm(t *testing.T, s string, place int) {
	t.Helper()
	checkFields(t, s, nil, at{api.ErrForm, place})
}

// checkSplit holds what Split tells against what is wanted.
func checkSplit(t *testing.T, s, head, body string) {
	t.Helper()
	if h, b := Split(s); h != head || b != body {
		t.Errorf("Split(%q) = %q, %q, not %q, %q", s, h, b, head, body)
	}
}

// manyFields are so many lines of a head.
func manyFields(many int) string {
	var out strings.Builder
	for i := range many {
		out.WriteString("F" + strconv.Itoa(i) + ": x" + strconv.Itoa(i) + "\r\n")
	}
	return out.String()
}

// manyRead is what is read of them.
func manyRead(many int) []api.Field {
	var out []api.Field
	for i := range many {
		out = append(out, api.Field{Name: "F" + strconv.Itoa(i), Value: "x" + strconv.Itoa(i)})
	}
	return out
}

// TestLetters: every byte alone, and beside others (4.1).
func TestLetters(t *testing.T) {
	const great, small = "ABCDEFGHIJKLMNOPQRSTUVWXYZ", "abcdefghijklmnopqrstuvwxyz"
	for c := range 256 {
		one := string([]byte{byte(c)})
		s, g := one, one
		if i := strings.IndexByte(great, byte(c)); i >= 0 {
			s = small[i : i+1]
		}
		if i := strings.IndexByte(small, byte(c)); i >= 0 {
			g = great[i : i+1]
		}
		for _, x := range []struct{ in, small, great string }{
			{one, s, g}, {"Q" + one, "q" + s, "Q" + g}, {one + "q", s + "q", g + "Q"}, {"1" + one + "Zz", "1" + s + "zz", "1" + g + "ZZ"},
		} {
			if got := Small(x.in); got != x.small {
				t.Errorf("Small(%q) = %q, not %q", x.in, got, x.small)
			}
			if got := Great(x.in); got != x.great {
				t.Errorf("Great(%q) = %q, not %q", x.in, got, x.great)
			}
		}
	}
}

func TestLettersTexts(t *testing.T) {
	for _, c := range []struct{ s, small, great string }{
		{"", "", ""},
		{"Content-Type", "content-type", "CONTENT-TYPE"},
		{"@AZ[`az{", "@az[`az{", "@AZ[`AZ{"},
		// letters above 127, and those that the library takes for an s, a k or an i
		{"\u00c9\u00e9\u0416\u0436", "\u00c9\u00e9\u0416\u0436", "\u00c9\u00e9\u0416\u0436"},
		{"\u017f\u212a\u0130\u0131\u00df", "\u017f\u212a\u0130\u0131\u00df", "\u017f\u212a\u0130\u0131\u00df"},
		{"A\xffa\xc3", "a\xffa\xc3", "A\xffA\xc3"},
		{strings.Repeat("aB\x00", 100_000), strings.Repeat("ab\x00", 100_000), strings.Repeat("AB\x00", 100_000)},
	} {
		if got := Small(c.s); got != c.small {
			t.Errorf("Small(%.60q) = %.60q, not %.60q", c.s, got, c.small)
		}
		if got := Great(c.s); got != c.great {
			t.Errorf("Great(%.60q) = %.60q, not %.60q", c.s, got, c.great)
		}
	}
}

func TestSplit(t *testing.T) {
	for _, c := range []struct{ head, body string }{
		{"A: b\r\n\r\n", "body"},
		{"A: b\r\nC: d\r\n\r\n", "Hello\r\nWorld\r\n"},
		{"", ""},
		// the first LINE is empty
		{"\r\n", ""},
		{"\r\n", "body"},
		{"\r\n", "\r\n"},
		{"\r\n", "A: b\r\n\r\nbody"},
		// no empty LINE
		{"A", ""},
		{"A: b", ""},
		{"A: b\r\n", ""},
		{"A: b\r\nC: d", ""},
		{"\r", ""},
		{"\n", ""},
		// an LF or a CR alone ends no LINE
		{"A: b\n\nbody", ""},
		{"A: b\r\rbody", ""},
		{"\n\r\n\r\n", "x"},
		{"\nbody", ""},
		{"\n\nbody", ""},
		{"\n\r\nbody", ""},
		{"\r\rbody", ""},
		{"\r\r\nbody", ""},
		{"\n\r", ""},
		{"A\n\r\nbody", ""},
		{"A\r\n\n\r\nbody", ""},
		{"A\r\n\r\r\nbody", ""},
		{"A\r\n\rbody", ""},
		{"A\r\n\nbody", ""},
		{"A\r\n\r", ""},
		{"A\r\r\n\r\n", "\n"},
		// a LINE of blanks is not empty
		{"A: b\r\n \r\nbody", ""},
		{" \r\nbody", ""},
		// the body has empty LINEs of its own
		{"A: b\r\n\r\n", "\r\n"},
		{"A: b\r\n\r\n", "\r\n\r\nx\r\n\r\n"},
		{"A: b\r\n\r\n", "one\r\n\r\ntwo"},
		// any bytes
		{"\x00\xff\r\n\r\n", "\x00\xff"},
	} {
		checkSplit(t, c.head+c.body, c.head, c.body)
	}
}

func TestFields(t *testing.T) {
	for _, c := range []struct {
		s    string
		want []api.Field
	}{
		{"", nil},
		{"\r\n", nil},
		{"\r\nA: b", nil},
		{"A: b", fields("A", "b")},
		{"A: b\r\n", fields("A", "b")},
		{"A: b\r\n\r\n", fields("A", "b")},
		{"Subject: hello you\r\nFrom: me@x\r\n\r\nbody", fields("Subject", "hello you", "From", "me@x")},
		// names are as they are written, and said more than once
		{"a: 1\r\nA: 2\r\na: 1\r\n", fields("a", "1", "A", "2", "a", "1")},
		// what the first : stands behind, and others
		{"A:b", fields("A", "b")},
		{"A:b:c", fields("A", "b:c")},
		{"A::", fields("A", ":")},
		{"A: :b: c", fields("A", ":b: c")},
		{"!\"#$%&'()*+,-./09;<=>?@[\\]^_`{|}~: x", fields("!\"#$%&'()*+,-./09;<=>?@[\\]^_`{|}~", "x")},
		// a Value that is empty, or has blanks and tabs at both ends
		{"A:", fields("A", "")},
		{"A:\r\nB:\r\n", fields("A", "", "B", "")},
		{"A: ", fields("A", "")},
		{"A:\t", fields("A", "")},
		{"A: \t \r\n", fields("A", "")},
		{"A:  b  c  ", fields("A", "b  c")},
		{"A:\tb\tc\t", fields("A", "b\tc")},
		{"A: \t b \t c \t \r\n", fields("A", "b \t c")},
		// other bytes at the ends stay
		{"A: \v\f\u00a0b\u00a0\f\v ", fields("A", "\v\f\u00a0b\u00a0\f\v")},
		{"A:\x01\x7f\x80\xff", fields("A", "\x01\x7f\x80\xff")},
		// what goes on
		{"A: b\r\n c", fields("A", "b c")},
		{"A: b\r\n\tc", fields("A", "b c")},
		{"A: b\r\n \t  c\t \r\n", fields("A", "b c")},
		{"A: b \t\r\n c", fields("A", "b c")},
		{"A: b\r\n c\r\n\td\r\n e\r\n", fields("A", "b c d e")},
		{"A: b\r\n c: d\r\nE: f\r\n\tg\r\n", fields("A", "b c: d", "E", "f g")},
		{"A: b\r\n :\r\n", fields("A", "b :")},
		{"A:\r\n c", fields("A", "c")},
		{"A: \r\n\tc\r\n d", fields("A", "c d")},
		// and of blanks alone
		{"A: b\r\n \r\n", fields("A", "b")},
		{"A: b\r\n\t\r\nC: d\r\n \t\r\n", fields("A", "b", "C", "d")},
		{"A:\r\n \r\n", fields("A", "")},
		{"A:\r\n \r\n\t\r\n c", fields("A", "c")},
		{"A: b\r\n \r\n c", fields("A", "b c")},
		{"A: b\r\n\t\r\n \t \r\n c\r\n ", fields("A", "b c")},
		// what the body is does not matter
		{"A: b\r\n\r\nno field\r\n\x00\r\n: \r\n\n\r", fields("A", "b")},
		{"\r\n goes on", nil},
		{"A: b\r\n\r\n goes on", fields("A", "b")},
		{"A: b\r\n\r\n\r\nC: d", fields("A", "b")},
		{manyFields(api.MaxFields) + "\r\n" + manyFields(9), manyRead(api.MaxFields)},
	} {
		checkFields(t, c.s, c.want, fine)
	}
}

func TestFieldsWrong(t *testing.T) {
	for _, c := range []struct {
		s     string
		place int
	}{
		// no field ahead
		{" ", 0}, {"\t", 0}, {" a", 0}, {"\ta: b", 0}, {" A: b\r\nC: d", 0}, {" \r\n", 0}, {"\t\r\nA: b\r\n", 0},
		// no :
		{"A", 0}, {"A\r\n", 0}, {"A b", 0}, {"A: b\r\nC", 1}, {"A: b\r\nC\r\nD: e", 1}, {"A: b\r\n c\r\nD\r\n", 2},
		// no name ahead of it
		{":", 0}, {": b", 0}, {":A: b", 0}, {"A: b\r\n:\r\n", 1}, {"A: b\r\n c\r\n\td\r\n: x\r\n\r\n", 3},
		// a name with a blank, a tab, a byte 127 or above
		{"A : b", 0}, {"A b: c", 0}, {"A\t: b", 0}, {"A\x7f: b", 0}, {"\x80: b", 0}, {"\u00e9: b", 0}, {"A\xff: b", 0}, {"A\x1f: b", 0}, {"\v: b", 0},
		// a CR, an LF, a byte 0: in a name, in a value, at the end, in what goes on
		{"\r", 0}, {"\n", 0}, {"\x00", 0}, {"A\r: b", 0}, {"A\n: b", 0}, {"A\x00: b", 0},
		{"A: b\rc", 0}, {"A: b\nc", 0}, {"A: b\x00c", 0}, {"A: b\r", 0}, {"A: b\n", 0}, {"A: b\x00", 0},
		{"A: b\r\r\n", 0}, {"A: b\n\r\n", 0}, {"A: b\x00\r\n", 0}, {"A: b\n\nbody", 0},
		{"A: b\r\n \r", 1}, {"A: b\r\n \n", 1}, {"A: b\r\n \x00", 1}, {"A: b\r\n c\rd", 1}, {"A: b\r\n\tc\nd\r\n", 1}, {"A: b\r\n\tc\x00\r\n", 1},
		{"A: b\r\n\nC: d", 1}, {"A: b\r\n\rC: d", 1}, {"A: b\r\n\x00C: d", 1}, {"A: b\r\n\r", 1},
		// the first of some
		{"A: b\r\nC\r\nD\r\n", 1}, {" x\r\nA: b\x00", 0}, {"A: b\r\nC: d\r\nE: \x00\r\n: f", 2},
		// at the last piece of the head
		{"A: b\r\nC\r\n\r\nbody", 1},
	} {
		checkForm(t, c.s, c.place)
	}
}

// TestFieldsName: every byte in a name, and names of all lengths.
func TestFieldsName(t *testing.T) {
	for c := range 256 {
		one := string([]byte{byte(c)})
		for _, ahead := range []string{"", "X", "X-Y"} {
			s := ahead + one + "Z: v"
			switch {
			case one == ":" && ahead != "":
				checkFields(t, s, fields(ahead, "Z: v"), fine)
			case one != ":" && c > 32 && c < 127:
				checkFields(t, s, fields(ahead+one+"Z", "v"), fine)
			default:
				checkForm(t, s, 0)
			}
		}
	}
	for many := range 130 {
		for _, one := range []string{"n", "!", "~"} {
			name := strings.Repeat(one, many)
			for _, behind := range []string{":", ": v", ":v\r\n", ": v\r\n\r\nx: y"} {
				value := ""
				if len(behind) > 1 {
					value = "v"
				}
				if many >= 1 && many <= 60 {
					checkFields(t, name+behind, fields(name, value), fine)
				} else {
					checkForm(t, name+behind, 0)
				}
			}
		}
	}
}

// TestFieldsValue: every byte in a Value, and in what goes on.
func TestFieldsValue(t *testing.T) {
	for c := range 256 {
		one := string([]byte{byte(c)})
		bad := strings.Contains("\r\n\x00", one)
		for i, s := range []string{"A: b" + one + "c", "A: b\r\n b" + one + "c"} {
			if bad {
				checkForm(t, s, i)
			} else {
				checkFields(t, s, fields("A", []string{"", "b "}[i]+"b"+one+"c"), fine)
			}
		}
		for i, s := range []string{"A:" + one, "A:\r\n\t" + one} {
			switch {
			case bad:
				checkForm(t, s, i)
			case one == " " || one == "\t":
				checkFields(t, s, fields("A", ""), fine)
			default:
				checkFields(t, s, fields("A", one), fine)
			}
		}
	}
}

// TestFieldsMany: the bound, and what is told behind it.
func TestFieldsMany(t *testing.T) {
	const most = api.MaxFields
	for many := range most + 1 {
		checkFields(t, manyFields(many), manyRead(many), fine)
	}
	full := manyFields(most)
	last := manyRead(most)
	last[most-1].Value += " y"
	for _, c := range []struct {
		s    string
		want []api.Field
		e    at
	}{
		{full + "\r\n", manyRead(most), fine},
		{full + "\r\nA: b", manyRead(most), fine},
		// what goes on is no field
		{full + " y", last, fine},
		{full + "\ty\r\n \r\n\r\nA: b", last, fine},
		// one more
		{full + "A: b", nil, at{api.ErrLimit, most}},
		{full + "A:\r\n\r\n", nil, at{api.ErrLimit, most}},
		{full + " y\r\nA: b", nil, at{api.ErrLimit, most + 1}},
		{full + " y\r\n\tz\r\nF0: x0", nil, at{api.ErrLimit, most + 2}},
		{manyFields(most + 1), nil, at{api.ErrLimit, most}},
		{manyFields(5 * most), nil, at{api.ErrLimit, most}},
		// one that is wrong is none more
		{full + "A", nil, at{api.ErrForm, most}},
		{full + ": b", nil, at{api.ErrForm, most}},
		{full + "A b: c", nil, at{api.ErrForm, most}},
		{full + strings.Repeat("n", 61) + ": c", nil, at{api.ErrForm, most}},
		{full + "A: \x00", nil, at{api.ErrForm, most}},
		{full + "A: \r", nil, at{api.ErrForm, most}},
		{full + " \n", nil, at{api.ErrForm, most}},
		{full + " y\r\nA", nil, at{api.ErrForm, most + 1}},
		// the first of both
		{full + "A: b\r\nC", nil, at{api.ErrLimit, most}},
		{full + "A\r\nC: d", nil, at{api.ErrForm, most}},
		{"A\r\n" + full + "C: d", nil, at{api.ErrForm, 0}},
	} {
		checkFields(t, c.s, c.want, c.e)
	}
}

// second reads a head byte by byte, as the chapter's words go, piece by piece.
func second(s string) ([]api.Field, at) {
	var pieces []string
	piece := ""
	for len(s) > 0 {
		if strings.HasPrefix(s, "\r\n") {
			if piece == "" {
				break
			}
			pieces, piece, s = append(pieces, piece), "", s[2:]
			continue
		}
		piece, s = piece+s[:1], s[1:]
	}
	if piece != "" {
		pieces = append(pieces, piece)
	}
	var out []api.Field
	for i, p := range pieces {
		if strings.Count(p, "\r")+strings.Count(p, "\n")+strings.Count(p, "\x00") > 0 {
			return nil, at{api.ErrForm, i}
		}
		if p[0] == ' ' || p[0] == '\t' {
			if len(out) == 0 {
				return nil, at{api.ErrForm, i}
			}
			f := &out[len(out)-1]
			f.Value = cut(f.Value+" "+cut(p, ' ', '\t'), ' ')
			continue
		}
		colon := strings.IndexByte(p, ':')
		if colon < 1 || colon > 60 {
			return nil, at{api.ErrForm, i}
		}
		for _, c := range []byte(p[:colon]) {
			if c <= ' ' || c >= 127 {
				return nil, at{api.ErrForm, i}
			}
		}
		if len(out) >= api.MaxFields {
			return nil, at{api.ErrLimit, i}
		}
		out = append(out, api.Field{Name: p[:colon], Value: cut(p[colon+1:], ' ', '\t')})
	}
	return out, fine
}

// cut is a text without some bytes at both ends.
func cut(s string, some ...byte) string {
	for s != "" && slices.Contains(some, s[0]) {
		s = s[1:]
	}
	for s != "" && slices.Contains(some, s[len(s)-1]) {
		s = s[:len(s)-1]
	}
	return s
}

// checkText holds all that is told of a text against the second reading, and what must be true of it.
func checkText(t *testing.T, s string) {
	t.Helper()
	h, b := Split(s)
	if h+b != s {
		t.Errorf("Split(%q) = %q, %q", s, h, b)
	}
	ended := h == "\r\n" || strings.HasSuffix(h, "\r\n\r\n")
	if !ended && b != "" {
		t.Errorf("Split(%q) ends at no empty line: %q, %q", s, h, b)
	}
	for i := 1; i < len(h); i++ {
		if h[:i] == "\r\n" || strings.HasSuffix(h[:i], "\r\n\r\n") {
			t.Errorf("Split(%q) goes beyond an empty line: %q, %q", s, h, b)
			break
		}
	}
	want, e := second(s)
	checkFields(t, s, want, e)
	checkFields(t, h, want, e)
	if e == fine {
		printed := Print(want)
		checkFields(t, printed, want, fine)
		checkSplit(t, printed+s, printed, s)
	}
}

// TestShort: all short texts of some bytes.
func TestShort(t *testing.T) {
	var grow func(s string, signs []string, more int)
	grow = func(s string, signs []string, more int) {
		checkText(t, s)
		if more == 0 || t.Failed() {
			return
		}
		for _, c := range signs {
			grow(s+c, signs, more-1)
		}
	}
	grow("", []string{"A", ":", " ", "\t", "\r", "\n", "\x00"}, 6)
	grow("", []string{"A", ":", " ", "\r\n"}, 8)
	grow("A:b", []string{" ", "\t", "\r\n", "c", "A:"}, 7)
}

// TestDrawn: drawn heads, perhaps changed at a byte.
func TestDrawn(t *testing.T) {
	d := rand.New(rand.NewSource(4))
	pieces := []string{"A", "b", ":", ": ", " ", "\t", "\r\n", "\r\n", "\r\n ", "\r\n\t", "Subject: x", "\r\nFrom: me", "\x7f", "\xff", "\r\nX:", "~"}
	for range 60_000 {
		s := "A: b"
		for range d.Intn(14) {
			s += pieces[d.Intn(len(pieces))]
		}
		if b := []byte(s); d.Intn(3) == 0 {
			b[d.Intn(len(b))] = "\r\n\x00: \tA"[d.Intn(7)]
			s = string(b)
		}
		checkText(t, s)
	}
	for range 2000 {
		s := ""
		for range api.MaxFields - 2 + d.Intn(6) {
			s += []string{"A: b\r\n", "C:\r\n", "D: e\r\n", "F: g\r\n h\r\n", "\ti\r\n"}[d.Intn(5)]
		}
		if d.Intn(2) == 0 {
			s += pieces[d.Intn(len(pieces))]
		}
		checkText(t, s)
	}
}

// TestGreat: great heads take no longer than their bytes.
func TestGreat(t *testing.T) {
	start := time.Now()
	long := "A: b\r\n" + strings.Repeat(" c\r\n", 500_000)
	checkFields(t, long, fields("A", "b"+strings.Repeat(" c", 500_000)), fine)
	checkFields(t, "A:"+strings.Repeat("\r\n ", 500_000), fields("A", ""), fine)
	checkFields(t, "A: "+strings.Repeat("x", 2_000_000), fields("A", strings.Repeat("x", 2_000_000)), fine)
	checkForm(t, strings.Repeat("x", 2_000_000), 0)
	checkForm(t, strings.Repeat("\r", 2_000_000), 0)
	checkFields(t, "\r\n"+strings.Repeat("\r\n", 1_000_000), nil, fine)
	if _, ok := Param(strings.Repeat(";a=b", 500_000), "c"); ok {
		t.Error("Param finds what is not there")
	}
	if took := time.Since(start); took > 30*time.Second {
		t.Errorf("that takes %v", took)
	}
}

func TestGet(t *testing.T) {
	l := fields("Subject", "one", "FROM", "me", "subject", "two", "X-y", "", "x-Y", "z")
	for _, c := range []struct {
		name, want string
		ok         bool
	}{
		{"Subject", "one", true}, {"subject", "one", true}, {"SUBJECT", "one", true}, {"sUBJECT", "one", true},
		{"from", "me", true}, {"From", "me", true}, {"FROM", "me", true},
		{"x-Y", "", true}, {"X-Y", "", true},
		{"To", "", false}, {"", "", false}, {"Subjec", "", false}, {"Subjects", "", false}, {"ubject", "", false},
		{"Subject:", "", false}, {" Subject", "", false}, {"Subject ", "", false}, {"\u017fubject", "", false}, {"one", "", false}, {"X_y", "", false},
	} {
		if got, ok := Get(l, c.name); got != c.want || ok != c.ok {
			t.Errorf("Get(%q) = %q, %v, not %q, %v", c.name, got, ok, c.want, c.ok)
		}
	}
	for _, l := range [][]api.Field{nil, {}} {
		for _, name := range []string{"", "a"} {
			if got, ok := Get(l, name); got != "" || ok {
				t.Errorf("Get of no field = %q, %v", got, ok)
			}
		}
	}
	// any list may be asked
	odd := fields("", "none", "\u00c9", "1", "\u00e9", "2", "\u212a", "3", "k", "4")
	for name, want := range map[string]string{"": "none", "\u00e9": "2", "\u00c9": "1", "K": "4", "\u212a": "3"} {
		if got, ok := Get(odd, name); got != want || !ok {
			t.Errorf("Get(%q) = %q, %v, not %q", name, got, ok, want)
		}
	}
}

func TestOnly(t *testing.T) {
	l := fields("Subject", "one", "FROM", "me", "subject", "two", "To", "you", "", "none")
	for _, c := range []struct {
		names []string
		want  []api.Field
	}{
		{nil, nil},
		{[]string{}, nil},
		{[]string{"cc"}, nil},
		{[]string{"Subjec", "Subjects", "subject:", " to", "\u017fubject", "one"}, nil},
		{[]string{"from"}, fields("FROM", "me")},
		{[]string{"SUBJECT"}, fields("Subject", "one", "subject", "two")},
		// in their order, and not in that of the names; each once
		{[]string{"to", "SUBJECT"}, fields("Subject", "one", "subject", "two", "To", "you")},
		{[]string{"To", "FROM", "x", "to", "from", "TO"}, fields("FROM", "me", "To", "you")},
		{[]string{""}, fields("", "none")},
		{[]string{"tO", "", "fRom", "sUBJECT"}, l},
	} {
		if got := Only(l, c.names); !slices.Equal(got, c.want) {
			t.Errorf("Only(%q) = %q, not %q", c.names, got, c.want)
		}
		if got := Only(nil, c.names); len(got) != 0 {
			t.Errorf("Only of no field (%q) = %q", c.names, got)
		}
	}
}

func TestPrint(t *testing.T) {
	for _, c := range []struct {
		l    []api.Field
		want string
	}{
		{nil, "\r\n"},
		{[]api.Field{}, "\r\n"},
		{fields("A", "b"), "A: b\r\n\r\n"},
		{fields("A", ""), "A: \r\n\r\n"},
		{fields("Subject", "hello you", "from", "me", "Subject", "x:y"), "Subject: hello you\r\nfrom: me\r\nSubject: x:y\r\n\r\n"},
		// any list is written as it is
		{fields("", "", " a ", " b "), ": \r\n a :  b \r\n\r\n"},
		{fields("\xff", "\r\n"), "\xff: \r\n\r\n\r\n"},
	} {
		if got := Print(c.l); got != c.want {
			t.Errorf("Print(%q) = %q, not %q", c.l, got, c.want)
		}
	}
}

func TestParam(t *testing.T) {
	for _, c := range []struct {
		value, name, want string
		ok                bool
	}{
		{"text/plain; charset=utf-8", "charset", "utf-8", true},
		{"multipart/mixed; boundary=\"a b\"; x=y", "boundary", "a b", true},
		{"multipart/mixed; boundary=\"a b\"; x=y", "x", "y", true},
		// no ;
		{"", "a", "", false}, {"", "", "", false}, {"text/plain", "a", "", false}, {"a=b", "a", "", false}, {"=", "", "", false},
		// letters
		{"x; Boundary=q", "boundary", "q", true}, {"x; boundary=q", "BOUNDARY", "q", true}, {"x; bOUNDARY=Q", "Boundary", "Q", true},
		{"x; k=1; \u212a=2", "\u212a", "2", true}, {"x; \u017f=1", "s", "", false}, {"x; \u00e9=1", "\u00c9", "", false},
		// the first of two, and not what its letters begin
		{"x; a=1; a=2", "a", "1", true}, {"x; A=1; a=2", "a", "1", true}, {"x; ab=1; a=2", "a", "2", true}, {"x; b=1; ab=2", "ab", "2", true},
		{"x; a=; a=2", "a", "", true}, {"x; a=\"\"; a=2", "a", "", true},
		{"x; b=1", "a", "", false}, {"x; a=1", "", "", false}, {"x; a=1", "a=1", "", false}, {"x; a=1", " a", "", false}, {"x; a=1", "a ", "", false},
		// a piece without =
		{"x; a", "a", "", false}, {"x; a; a=1", "a", "1", true}, {"x;", "", "", false}, {"x;;;", "", "", false}, {";", "", "", false}, {"x; ;a=1", "a", "1", true},
		// more of them
		{"x; a=b=c", "a", "b=c", true}, {"x; a==", "a", "=", true}, {"x; a=b=c", "b", "", false}, {"x; a=b=c", "a=b", "", false},
		// an empty name
		{"x; =1", "", "1", true}, {"x;=", "", "", true}, {"x; \t = 1 ", "", "1", true}, {"x; =1", "a", "", false}, {"=1; b=2", "", "", false},
		// the first piece is never looked at
		{"a=1; b=2", "a", "", false}, {"a=1; a=2", "a", "2", true}, {"a=1;", "a", "", false}, {";a=1", "a", "1", true}, {"; a=1; a=2", "a", "1", true},
		// blanks and tabs around, and no others
		{"x;a=1", "a", "1", true}, {"x; \t a \t = \t 1 \t ;b", "a", "1", true}, {"x;\ta=1\t", "a", "1", true}, {"x; a b = c d ", "a b", "c d", true},
		{"x; a=", "a", "", true}, {"x; a= \t ", "a", "", true}, {"x;\va=1", "a", "", false}, {"x;\r\na=1", "a", "", false}, {"x; a=\v1\n", "a", "\v1\n", true},
		// quotes
		{"x; a=\"1\"", "a", "1", true}, {"x; a= \t\"1\" \t", "a", "1", true}, {"x; a=\" 1 \"", "a", " 1 ", true}, {"x; a=\"\t\"", "a", "\t", true},
		{"x; a=\"\"", "a", "", true}, {"x; a=\"", "a", "\"", true}, {"x; a= \" ", "a", "\"", true}, {"x; a=\"\"\"", "a", "\"", true}, {"x; a=\"\"\"\"", "a", "\"\"", true},
		{"x; a=\"1", "a", "\"1", true}, {"x; a=1\"", "a", "1\"", true}, {"x; a=1\"2\"3", "a", "1\"2\"3", true}, {"x; a=\"1\"2", "a", "\"1\"2", true}, {"x; a='1'", "a", "'1'", true},
		{"x; \"a\"=1", "a", "", false}, {"x; \"a\"=1", "\"a\"", "1", true}, {"x; a=\"1\\\"\"", "a", "1\\\"", true},
		// a ; cuts within quotes, too
		{"x; a=\"1;2\"", "a", "\"1", true}, {"x; a=\"1; b=2\"", "b", "2\"", true}, {"x\"; a=1\"; b=2", "a", "1\"", true},
		{"x; a=\xff\x00", "a", "\xff\x00", true},
	} {
		if got, ok := Param(c.value, c.name); got != c.want || ok != c.ok {
			t.Errorf("Param(%q, %q) = %q, %v, not %q, %v", c.value, c.name, got, ok, c.want, c.ok)
		}
	}
}

// secondParam looks for a parameter from the left, byte by byte.
func secondParam(value, name string) (string, bool) {
	piece, nth := "", 0
	for i := 0; i <= len(value); i++ {
		if i < len(value) && value[i] != ';' {
			piece += value[i : i+1]
			continue
		}
		eq := strings.IndexByte(piece, '=')
		if nth > 0 && eq >= 0 && Small(cut(piece[:eq], ' ', '\t')) == Small(name) {
			said := cut(piece[eq+1:], ' ', '\t')
			if strings.HasPrefix(said, "\"") && strings.HasSuffix(said, "\"") && said != "\"" {
				said = said[1 : len(said)-1]
			}
			return said, true
		}
		piece, nth = "", nth+1
	}
	return "", false
}

// TestParamShort: all short values of some bytes.
func TestParamShort(t *testing.T) {
	var grow func(s string, more int)
	grow = func(s string, more int) {
		for _, name := range []string{"", "a", "A", "aa"} {
			want, has := secondParam(s, name)
			if got, ok := Param(s, name); got != want || ok != has {
				t.Fatalf("Param(%q, %q) = %q, %v, not %q, %v", s, name, got, ok, want, has)
			}
		}
		if more == 0 {
			return
		}
		for _, c := range []string{";", "=", "\"", " ", "\t", "a", "A"} {
			grow(s+c, more-1)
		}
	}
	grow("", 4)
	grow("x;a=", 5)
	grow(";", 5)
}

// TestNothingWritten: what is handed in stays as it was, and what comes out is the caller's (P4).
func TestNothingWritten(t *testing.T) {
	room := append(make([]api.Field, 0, 9), fields("A", "1", "b", "2", "a", "3")...)
	names := append(make([]string, 0, 9), "A", "B")
	wholeRoom, wholeNames := slices.Clone(room[:9]), slices.Clone(names[:9])
	out := Only(room, names)
	for i := range out {
		out[i].Value = "x"
	}
	_ = append(out, api.Field{Name: "z"})
	Get(room, "B")
	Print(room)
	if !slices.Equal(room[:9], wholeRoom) || !slices.Equal(names[:9], wholeNames) {
		t.Errorf("written into: %q, %q", room[:9], names[:9])
	}
	one, _ := Fields("A: b\r\nC: d")
	one[0].Value = "x"
	_ = append(one, api.Field{Name: "z"})
	checkFields(t, "A: b\r\nC: d", fields("A", "b", "C", "d"), fine)
}

func FuzzFields(f *testing.F) {
	for _, s := range []string{"", "\r\n", "A: b\r\n c\r\n\r\nbody", "A: b\r\n\t\r\n c", "x; a=\"b\"; c", manyFields(41)} {
		f.Add(s)
	}
	f.Fuzz(func(t *testing.T, s string) {
		checkText(t, s)
		for _, name := range []string{"", "a", s} {
			want, has := secondParam(s, name)
			if got, ok := Param(s, name); got != want || ok != has {
				t.Errorf("Param(%q, %q) = %q, %v, not %q, %v", s, name, got, ok, want, has)
			}
		}
		if Small(Great(s)) != Small(s) || Great(Small(s)) != Great(s) || len(Small(s)) != len(s) {
			t.Errorf("letters of %q", s)
		}
	})
}
