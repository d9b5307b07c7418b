package desk

import (
	"maps"
	"slices"
	"strconv"
	"strings"

	"letterbox/api"
	"letterbox/archive"
	"letterbox/house"
	"letterbox/mime"
	"letterbox/seq"
	"letterbox/session"
	"letterbox/utf7"
)

// lineEnd is what the lines of sessions and messages end with.
const lineEnd = "\r\n"

// open begins a session. ErrFull: there are as many as may be.
func (c *clerk) open(w *words) string {
	w.end()
	n := roomFor(c.sessions, maxOpen)
	s, err := session.New(c.house)
	check(err)
	c.sessions = append(c.sessions, s)
	return "open " + strconv.Itoa(n)
}

// feed feeds a session bytes. ErrMissing.
func (c *clerk) feed(w *words) string {
	n, bytes := w.number(), w.bytes()
	return "feed " + shown(oneOf(c.sessions, n).Feed(bytes))
}

// line feeds a session bytes, and the end of a line. ErrMissing.
func (c *clerk) line(w *words) string {
	n, bytes := w.number(), w.bytes()
	return "line " + shown(oneOf(c.sessions, n).Feed(bytes+lineEnd))
}

// names tells the names of all boxes.
func (c *clerk) names(w *words) string {
	w.end()
	return strings.Join(append([]string{"names"}, c.house.Names()...), " ")
}

// encode writes a name in letters that go everywhere.
func (c *clerk) encode(w *words) string {
	s, err := utf7.Encode(w.all())
	check(err)
	return "encode " + s
}

// decode reads a name in letters that go everywhere.
func (c *clerk) decode(w *words) string {
	s, err := utf7.Decode(w.all())
	check(err)
	return "decode " + shown(s)
}

// set reads a set of numbers, and writes it.
func (c *clerk) set(w *words) string {
	word := w.next()
	w.end()
	l, err := seq.Parse(word)
	check(err)
	s, err := seq.Print(l)
	check(err)
	return s
}

// has tells whether a number is one of a set. Both numbers are read ahead of the set.
func (c *clerk) has(w *words) string {
	word, n, greatest := w.next(), w.number(), w.number()
	w.end()
	l, err := seq.Parse(word)
	check(err)
	return strconv.FormatBool(seq.Has(l, n, greatest))
}

// parts tells how the parts of a message stand.
func (c *clerk) parts(w *words) string {
	p, err := mime.Parse(w.bytes())
	check(err)
	return mime.Print(p)
}

// keep keeps the house as it is. ErrFull: as many are kept as may be.
func (c *clerk) keep(w *words) string {
	w.end()
	n := roomFor(c.kept, maxKept)
	full, err := archive.Full(c.house.Save())
	check(err)
	c.kept = append(c.kept, full)
	return "keep " + strconv.Itoa(n) + " " + strconv.Itoa(len(full))
}

// same tells how many bytes it takes to go from a house that is kept to this one, and whether they lead there. ErrMissing.
func (c *clerk) same(w *words) string {
	before := c.keptOne(w)
	now := c.house.Save()
	change, err := archive.Diff(before, now)
	check(err)
	after, err := archive.Apply(before, change)
	leads := err == nil && isSame(after, now)
	return strconv.Itoa(len(change)) + " " + strconv.FormatBool(leads)
}

// restore lets a house live again that is kept. Who asked in the one that was does not ask in it. ErrMissing.
func (c *clerk) restore(w *words) string {
	h, err := house.Load(c.keptOne(w))
	check(err)
	c.house, c.sessions = h, nil
	return "restore"
}

// text tells bytes.
func (c *clerk) text(w *words) string { return shown(w.bytes()) }

// help tells all first words that there are.
func (c *clerk) help(w *words) string {
	w.end()
	return strings.Join(slices.Sorted(maps.Keys(c.deeds)), " ")
}

// keptOne is the house that is kept by the number that is the last word. ErrMissing.
func (c *clerk) keptOne(w *words) house.Saved {
	n := w.number()
	w.end()
	s, err := archive.Read(oneOf(c.kept, n))
	check(err)
	return s
}

// oneOf is the one of that number, from 0 on. ErrMissing: there is none such.
func oneOf[T any](l []T, n int) T {
	if n < 0 || n >= len(l) {
		panic(api.ErrMissing)
	}
	return l[n]
}

// roomFor is the number that one more has. ErrFull: there are as many as may be.
func roomFor[T any](l []T, most int) int {
	if len(l) >= most {
		panic(api.ErrFull)
	}
	return len(l)
}

// isSame says whether two houses have the same. Each is written in one way only.
func isSame(a, b house.Saved) bool {
	x, errX := archive.Full(a)
	y, errY := archive.Full(b)
	return errX == nil && errY == nil && x == y
}

// shown is a text in letters that can be seen.
func shown(s string) string {
	const digits = "0123456789abcdef"
	var out strings.Builder
	out.WriteByte('"')
	for i := range len(s) {
		if b := s[i]; b >= 33 && b <= 126 && b != '%' {
			out.WriteByte(b)
		} else {
			out.WriteByte('%')
			out.WriteByte(digits[b>>4])
			out.WriteByte(digits[b&15])
		}
	}
	out.WriteByte('"')
	return out.String()
}
