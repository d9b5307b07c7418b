package session

import (
	"strconv"
	"strings"

	"letterbox/api"
	"letterbox/head"
	"letterbox/seq"
	"letterbox/utf7"
)

// misfit is thrown where a command is not of the form that its name asks for, or its name is none.
type misfit struct{}

// fit throws a misfit, unless something is so.
func fit(so bool) {
	if !so {
		panic(misfit{})
	}
}

// parts are those of a command that were not taken yet.
type parts struct{ rest []api.Arg }

// end is behind the last part: none may be left.
func (p *parts) end() { fit(len(p.rest) == 0) }

// next takes the next part.
func (p *parts) next() api.Arg {
	fit(len(p.rest) > 0)
	a := p.rest[0]
	p.rest = p.rest[1:]
	return a
}

// text takes the next part, an Atom or a String.
func (p *parts) text() string { return textOf(p.next()) }

// word takes the next part, an Atom or a String, in great letters.
func (p *parts) word() string { return head.Great(p.text()) }

// boxName takes the next part, a box's name.
func (p *parts) boxName() string {
	name, err := utf7.Decode(p.text())
	fit(err == nil)
	return name
}

// set takes the next part, a set of numbers.
func (p *parts) set() []api.Range {
	l, err := seq.Parse(p.text())
	fit(err == nil)
	return l
}

// texts takes the next part, a List of Atoms and Strings.
func (p *parts) texts() []string {
	fit(p.isListNext())
	return textsOf(p.next().List)
}

// allTexts takes all that is left: a List of Atoms and Strings, or these, one at least.
func (p *parts) allTexts() []string {
	if p.isListNext() {
		l := p.texts()
		p.end()
		return l
	}
	fit(len(p.rest) > 0)
	l := textsOf(p.rest)
	p.rest = nil
	return l
}

// isListNext says whether the next part is a List.
func (p *parts) isListNext() bool { return len(p.rest) > 0 && p.rest[0].Kind == api.List }

// textOf is the text of a part that must be an Atom or a String.
func textOf(a api.Arg) string {
	fit(a.Kind != api.List)
	return a.Text
}

// textsOf are the texts of parts, each of which must be an Atom or a String.
func textsOf(l []api.Arg) []string {
	var out []string
	for _, a := range l {
		out = append(out, textOf(a))
	}
	return out
}

// digits reads a number that is written in digits, without a nought ahead.
func digits(s string) int {
	fit(s == "0" || s != "" && s[0] != '0' && strings.Trim(s, "0123456789") == "")
	// Of what is too great for it the library tells the greatest one, which is above all bounds, too.
	n, _ := strconv.Atoi(s)
	return n
}
