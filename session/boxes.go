package session

import (
	"slices"

	"letterbox/box"
	"letterbox/flags"
	"letterbox/head"
	"letterbox/house"
	"letterbox/utf7"
	"letterbox/wire"
)

// seen is the flag of messages that somebody read.
const seen = `\Seen`

// create makes a box.
func (t *turn) create() { t.named(t.house.Create) }

// remove takes a box away.
func (t *turn) remove() { t.named(t.house.Delete) }

// subscribe notes that a box is wanted.
func (t *turn) subscribe() {
	t.named(func(name string) error { return t.house.Want(name, true) })
}

// unsubscribe notes that a box is wanted no more.
func (t *turn) unsubscribe() {
	t.named(func(name string) error { return t.house.Want(name, false) })
}

// named does something with the box of a name.
func (t *turn) named(deed func(name string) error) {
	name := t.boxName()
	t.end()
	check(deed(name))
}

// rename lets a box be called otherwise.
func (t *turn) rename() {
	name, to := t.boxName(), t.boxName()
	t.end()
	check(t.house.Rename(name, to))
}

// list tells names of boxes.
func (t *turn) list() { t.listOf(false) }

// listWanted tells names that are wanted.
func (t *turn) listWanted() { t.listOf(true) }

// listOf tells names, of boxes, or those that are wanted, that are as a pattern in two pieces asks.
func (t *turn) listOf(wanted bool) {
	pattern := t.text() + t.text()
	t.end()
	for _, name := range t.house.List(pattern, wanted) {
		t.tell(t.name, `() "/"`, written(name))
	}
}

// written is how a box's name is told.
func written(name string) string {
	text, err := utf7.Encode(name)
	check(err)
	return wire.Quote(text)
}

// status tells numbers of a box.
func (t *turn) status() {
	name, words := t.boxName(), t.texts()
	t.end()
	fit(len(words) > 0)
	for i := range words {
		words[i] = head.Great(words[i])
		fit(slices.Contains([]string{"MESSAGES", "UIDNEXT", "UIDVALIDITY", "UNSEEN"}, words[i]))
	}
	b, err := t.house.Get(name)
	check(err)
	var told []string
	for _, word := range words {
		told = append(told, word, number(measure(b, word)))
	}
	t.tell("STATUS", written(name), inBrackets(told...))
}

// measure is the number of a box that a word asks for.
func measure(b *box.Box, word string) int {
	switch word {
	case "MESSAGES":
		return len(b.Letters)
	case "UIDNEXT":
		return b.Next
	case "UIDVALIDITY":
		return b.Valid
	}
	count := 0
	for _, l := range b.Letters {
		if !flags.Has(l.Flags, seen) {
			count++
		}
	}
	return count
}

// add puts a message into a box.
func (t *turn) add() {
	name := t.boxName()
	var noted []string
	if t.isListNext() {
		noted = t.texts()
	}
	day := 0
	if len(t.rest) > 1 {
		day = digits(t.text())
	}
	text := t.text()
	t.end()
	b, err := t.house.Get(name)
	check(err)
	uid, err := b.Append(noted, day, text)
	check(err)
	t.tell("OK", "[APPENDUID", number(b.Valid), number(uid)+"]")
}

// choose chooses a box.
func (t *turn) choose() { t.chooseTo(false) }

// examine chooses a box only to read it.
func (t *turn) examine() { t.chooseTo(true) }

// chooseTo chooses a box, perhaps only to read it. Whatever comes of it, the one that was chosen is so no more.
func (t *turn) chooseTo(read bool) {
	name := t.boxName()
	t.end()
	t.leave()
	b, err := t.house.Get(name)
	check(err)
	name, err = house.Name(name)
	check(err)
	t.state, t.choice = chosen, choice{name, box.Open(*b), read}
	t.tell(number(len(b.Letters)), "EXISTS")
	t.tell("OK", "[UIDVALIDITY", number(b.Valid)+"]")
	t.tell("OK", "[UIDNEXT", number(b.Next)+"]")
}
