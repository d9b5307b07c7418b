package session

import (
	"slices"
	"strings"

	"letterbox/api"
	"letterbox/flags"
	"letterbox/head"
	"letterbox/mime"
)

// An item is what is asked for of a message, by its name; of a BODY which part of it: as it is written, and, if it is written in numbers, these; and whether who asks only peeks.
type item struct {
	name string
	part string
	path []int
	peek bool
}

// items are what is asked for of a message, in order.
type items []item

// itemsOf are items that are asked for by texts, one at least.
func itemsOf(texts []string) items {
	fit(len(texts) > 0)
	var out items
	for _, s := range texts {
		out = append(out, itemOf(head.Great(s)))
	}
	return out
}

// itemOf is an item by its text, in great letters.
func itemOf(text string) item {
	switch text {
	case "FLAGS", "UID", "RFC822.SIZE", "INTERNALDATE", "BODYSTRUCTURE":
		return item{name: text}
	}
	name, behind, _ := strings.Cut(text, "[")
	part, closed := strings.CutSuffix(behind, "]")
	fit(closed && (name == "BODY" || name == "BODY.PEEK"))
	return item{name: "BODY", part: part, path: pathOf(part), peek: name == "BODY.PEEK"}
}

// pathOf are the numbers that lead to a part, if it is written in numbers.
func pathOf(part string) []int {
	switch part {
	case "", "HEADER", "TEXT":
		return nil
	}
	var out []int
	for piece := range strings.SplitSeq(part, ".") {
		n := digits(piece)
		fit(n > 0)
		out = append(out, n)
	}
	return out
}

// read says whether who asks for items has seen the message then.
func (l items) read() bool {
	return slices.ContainsFunc(l, func(i item) bool { return i.name == "BODY" && !i.peek })
}

// withUID are items with a UID among them.
func (l items) withUID() items {
	if slices.ContainsFunc(l, func(i item) bool { return i.name == "UID" }) {
		return l
	}
	return append(slices.Clip(l), item{name: "UID"})
}

// of are items of a message, as they are told.
func (l items) of(letter api.Letter) []string {
	var out []string
	for _, i := range l {
		out = append(out, i.of(letter))
	}
	return out
}

// of is an item of a message, as it is told.
func (i item) of(l api.Letter) string {
	switch i.name {
	case "FLAGS":
		return "FLAGS " + flags.Print(l.Flags)
	case "UID":
		return "UID " + number(l.UID)
	case "RFC822.SIZE":
		return "RFC822.SIZE " + number(len(l.Text))
	case "INTERNALDATE":
		return "INTERNALDATE " + number(l.Day)
	case "BODYSTRUCTURE":
		return "BODYSTRUCTURE " + structure(l.Text)
	}
	text, there := i.body(l.Text)
	if !there {
		return "BODY[" + i.part + "] NIL"
	}
	return "BODY[" + i.part + "] {" + number(len(text)) + "}" + lineEnd + text
}

// structure is how a message's parts stand.
func structure(text string) string {
	p, err := mime.Parse(text)
	if err != nil {
		return "NIL"
	}
	return mime.Print(p)
}

// body is what a BODY asks for of a message's text; false: there is none.
func (i item) body(text string) (string, bool) {
	top, rest := head.Split(text)
	switch i.part {
	case "":
		return text, true
	case "HEADER":
		return top, true
	case "TEXT":
		return rest, true
	}
	whole, err := mime.Parse(text)
	if err != nil {
		return "", false
	}
	p, there := mime.Find(whole, i.path)
	return text[p.From:p.To], there
}
