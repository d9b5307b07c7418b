package utf7

import (
	"encoding/base64"
	"math/rand"
	"strings"
	"testing"
	"unicode/utf16"
	"unicode/utf8"

	"letterbox/api"
)

// names and how they are written.
var pairs = []struct{ name, written string }{
	// ordinary ones
	{"INBOX", "INBOX"},
	{"a/b c-d,e+f", "a/b c-d,e+f"},
	{"a&\u00e9", "a&-&AOk-"}, // the document's example 1
	{"~peter/mail/\u53f0\u5317/\u65e5\u672c\u8a9e", "~peter/mail/&U,BTFw-/&ZeVnLIqe-"},
	// the least and the greatest rune that stands as it is, and those beside the ones that may not be
	{" ", " "},
	{"~", "~"},
	{"\u00a0", "&AKA-"},
	// &
	{"&", "&-"},
	{"&&", "&-&-"},
	{"&-", "&--"},
	{"-&", "-&-"},
	{"&AOk-", "&-AOk-"},
	{"\u00e9&\u00e9", "&AOk-&-&AOk-"},
	{"\u00e9-\u00e9", "&AOk--&AOk-"},
	// runes beside one another: 2, 4, 0 and 2 bits are filled up
	{"\u00e9a\u00e9", "&AOk-a&AOk-"},
	{"\u00e9\u00e9", "&AOkA6Q-"},
	{"\u00e9\u00e9\u00e9", "&AOkA6QDp-"},
	{"\u00e9\u00e9\u00e9\u00e9", "&AOkA6QDpAOk-"},
	// all of the letters' ends, and + and , of them
	{"\uffff", "&,,8-"},
	{"\ufbef", "&++8-"},
	{"\ufffd", "&,,0-"},
	// around the halves, and above ffff
	{"\ud7ff", "&1,8-"},
	{"\ue000", "&4AA-"},
	{"\U00010000", "&2ADcAA-"},
	{"\U0001f600", "&2D3eAA-"},
	{"\U000103ff", "&2ADf,w-"},
	{"\U00010400", "&2AHcAA-"},
	{"\U0010ffff", "&2,,f,w-"},
	{"\u00e9\U0001f600\u4e2d", "&AOnYPd4ATi0-"},
}

// names that may not be.
var wrongNames = []string{
	"",
	strings.Repeat("a", api.MaxName+1),
	strings.Repeat("\u00e9", api.MaxName/2) + "a",
	strings.Repeat("a", api.MaxName-1) + "\u00e9", // MaxName runes, one byte more
	"\x00", "a\x1f", "a\nb", "\x1fb",
	"\x7f", "a\u0080", "\u0085", "\u009fb",
	"\xff", "a\x80", "\xc3", "\u4e2d\xe4\xb8", // no UTF-8
	"\xc1\xa1", "\xe0\x83\xa9", // too long a form
	"\xed\xa0\x80", "\xed\xbf\xbf", // halves
	"\xf4\x90\x80\x80", // above 10ffff
}

// letters that Encode tells of no name.
var wrongWritings = []string{
	"",
	"&", "a&", "&AOk", "a&AOk", "&-&", // no end
	"&A-", "&AA-", "&AO-", "&AOkA-", "&AOkA6-", // bits are missing
	"&AOkA6QDpA-", "&AOkAAA-", "&AOkA6QA-", // letters are too many
	"&AOl-", "&AOm-", "&AOn-", "&AOkA6R-", "&AOkA6T-", // not filled up with 0
	"&AOk-&AOk-", "a&AOk-&AOkA6Q-", // what stands beside one another stands apart
	"&AGE-", "&ACY-", "&AGEA6Q-", "&AOkAYQ-", // what is to stand as it is
	"&AAA-", "&AB8-", "&AH8-", "&AIA-", "&AJ8-", // what may not be, in units
	"\x00", "a\x1f", "\x7f", "a\nb", // and as it is
	"\u00e9", "a\u4e2d", "\xff", "\xe9", "&AOk-\u00e9", // no letters that go everywhere
	"&2AA-", "&3AA-", "&2,8-", "&3,8-", // a half alone
	"&2ADYAA-", "&3ADYAA-", "&3ADcAA-", "&2AAA6Q-", "&AOnYAA-", "&2ADgAA-", // and without its other one
	"&AO/-", "&A O-", "&AOk=-", "&A&k-", "&\u00e9-", "&A\x00k-", // no letters of six bits
	strings.Repeat("a", api.MaxName+1),
	strings.Repeat("&-", api.MaxName+1),
	"&" + strings.Repeat("AOkA6QDp", 10) + "AOk-", // 31 runes of two bytes
	strings.Repeat("A", 100_000),
	"&" + strings.Repeat("A", 100_000),
	strings.Repeat("&", 100_000),
}

// reference writes a name by the library's own means.
func reference(name string) string {
	form := base64.NewEncoding("ABCDEFGHIJKLMNOPQRSTUVWXYZabcdefghijklmnopqrstuvwxyz0123456789+,").WithPadding(base64.NoPadding)
	out := ""
	var beside []rune
	flush := func() {
		var b []byte
		for _, u := range utf16.Encode(beside) {
			b = append(b, byte(u>>8), byte(u))
		}
		if len(b) > 0 {
			out += "&" + form.EncodeToString(b) + "-"
		}
		beside = nil
	}
	for _, r := range name {
		if r < 127 {
			flush()
			out += strings.ReplaceAll(string(r), "&", "&-")
		} else {
			beside = append(beside, r)
		}
	}
	flush()
	return out
}

// mayStand says whether a rune may be in a name.
func mayStand(r rune) bool {
	return utf8.ValidRune(r) && r >= 32 && (r < 127 || r > 159)
}

// checkName looks whether a name is written as it is asked, and read as it was.
func checkName(t *testing.T, name, written string) {
	t.Helper()
	if !Right(name) {
		t.Errorf("Right(%q) is false", name)
	}
	if got, err := Encode(name); got != written || err != nil {
		t.Errorf("Encode(%q) = %q, %v; want %q", name, got, err, written)
	}
	if got, err := Decode(written); got != name || err != nil {
		t.Errorf("Decode(%q) = %q, %v; want %q", written, got, err, name)
	}
}

func TestNamesAreWrittenAndRead(t *testing.T) {
	for _, p := range pairs {
		checkName(t, p.name, p.written)
	}
}

func TestLongestNames(t *testing.T) {
	for _, part := range []string{"a", "&", "\u00e9", "\u4e2d", "\U0001f600", "a&\u00e9\u4e2d\U0001f600-", "\u00e9&", "\u00e9a\u00e9b"} {
		name := strings.Repeat(part, api.MaxName/len(part))
		name += strings.Repeat("x", api.MaxName-len(name))
		checkName(t, name, reference(name))
	}
}

func TestWrongNames(t *testing.T) {
	for _, name := range wrongNames {
		if Right(name) {
			t.Errorf("Right(%q) is true", name)
		}
		if got, err := Encode(name); got != "" || err != error(api.ErrArg) {
			t.Errorf("Encode(%q) = %q, %v; want ErrArg", name, got, err)
		}
	}
}

func TestWrongWritings(t *testing.T) {
	for _, s := range wrongWritings {
		if got, err := Decode(s); got != "" || err != error(api.ErrForm) {
			t.Errorf("Decode(%.80q) = %q, %v; want ErrForm", s, got, err)
		}
	}
}

// Every rune, alone: those that may stand are written and read, others are not right.
func TestEveryRune(t *testing.T) {
	for r := rune(0); r <= utf8.MaxRune; r++ {
		if !utf8.ValidRune(r) {
			continue
		}
		name := string(r)
		if mayStand(r) {
			checkName(t, name, reference(name))
		} else if _, err := Encode(name); Right(name) || err != error(api.ErrArg) {
			t.Errorf("Encode(%q): %v; want ErrArg", name, err)
		}
	}
}

// drawName is a name of runes of all kinds.
func drawName(d *rand.Rand) string {
	kinds := [][2]rune{{32, 126}, {'&', '&'}, {'-', '-'}, {160, 0x7ff}, {0x800, 0xd7ff}, {0xe000, 0xffff}, {0x10000, 0x10ffff}}
	name := ""
	for {
		k := kinds[d.Intn(len(kinds))]
		next := name + string(k[0]+rune(d.Intn(int(k[1]-k[0])+1)))
		if len(next) > api.MaxName || name != "" && d.Intn(12) == 0 {
			return name
		}
		name = next
	}
}

func TestDrawnNames(t *testing.T) {
	d := rand.New(rand.NewSource(1))
	for range 20_000 {
		name := drawName(d)
		checkName(t, name, reference(name))
	}
}

// checkReading looks whether Decode tells of s a name of which s is the writing, or ErrForm.
func checkReading(t *testing.T, s string) {
	t.Helper()
	name, err := Decode(s)
	if err == nil && (!Right(name) || reference(name) != s) {
		t.Errorf("Decode(%q) = %q, which is not written so", s, name)
	}
	if err != nil && (name != "" || err != error(api.ErrForm)) {
		t.Errorf("Decode(%q) = %q, %v; want ErrForm", s, name, err)
	}
}

func TestChangedWritings(t *testing.T) {
	d := rand.New(rand.NewSource(2))
	const of = "&-A,+a2/8 \x00\xc3\xa9"
	for range 50_000 {
		b := []byte(reference(drawName(d)))
		i := d.Intn(len(b))
		switch d.Intn(3) {
		case 0:
			b[i] = of[d.Intn(len(of))]
		case 1:
			b = append(b[:i], b[i+1:]...)
		case 2:
			b = append(b[:i+1], b[i:]...)
		}
		checkReading(t, string(b))
	}
}

// All short texts of some letters: no two are read as one name, and the names that they can write are among those that are read.
func TestShortWritings(t *testing.T) {
	const of = "&-AOk2,"
	written := map[string]string{}
	texts := []string{""}
	for range 6 {
		var longer []string
		for _, s := range texts {
			for i := range of {
				longer = append(longer, s+of[i:i+1])
			}
		}
		texts = longer
		for _, s := range texts {
			checkReading(t, s)
			if name, err := Decode(s); err == nil {
				if was, twice := written[name]; twice {
					t.Errorf("Decode tells %q of %q and of %q", name, was, s)
				}
				written[name] = s
			}
		}
	}
	for _, name := range []string{"&", "A", "\u00e9", "-A", "A&-", "\u00e9O", "2\u00e9", "AOk2,-"} {
		if written[name] != reference(name) {
			t.Errorf("nothing is read as %q; want %q", name, reference(name))
		}
	}
}

func FuzzDecode(f *testing.F) {
	for _, p := range pairs {
		f.Add(p.written)
	}
	for _, s := range wrongWritings {
		f.Add(s)
	}
	f.Fuzz(checkReading)
}
