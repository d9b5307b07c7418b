package session

import (
	"strings"

	"letterbox/api"
	"letterbox/box"
	"letterbox/search"
	"letterbox/seq"
)

// mine is the box that is chosen. ErrMissing: it is not there any more.
func (t *turn) mine() (*box.Box, error) { return t.house.Get(t.choice.name) }

// toWrite is the box that is chosen, if it may be written into. ErrMissing: it is not there any more; ErrFalse: it is only read.
func (t *turn) toWrite() (*box.Box, error) {
	b, err := t.mine()
	if err == nil && t.choice.read {
		return nil, api.ErrFalse
	}
	return b, err
}

// sees is how many messages are seen, and the number for ever of the last one (0: there is none).
func (t *turn) sees() search.Box {
	uids := t.choice.view.Uids()
	if len(uids) == 0 {
		return search.Box{}
	}
	return search.Box{Many: len(uids), Greatest: uids[len(uids)-1]}
}

// each does something with each message that is seen, and that a box has, in order: where it stands, and it.
func (t *turn) each(b *box.Box, deed func(place int, l api.Letter)) {
	for i, uid := range t.choice.view.Uids() {
		if at, there := b.Find(uid); there {
			deed(i+1, b.Letters[at])
		}
	}
}

// eachOf does something with each of those messages that a set means.
func (t *turn) eachOf(set []api.Range, b *box.Box, deed func(place int, l api.Letter)) {
	sees := t.sees()
	t.each(b, func(place int, l api.Letter) {
		if seq.Has(set, t.called(place, l), t.greatest(sees)) {
			deed(place, l)
		}
	})
}

// called is the number by which a message is meant, and told.
func (t *turn) called(place int, l api.Letter) int {
	if t.byUID {
		return l.UID
	}
	return place
}

// greatest is the greatest number by which a message is meant.
func (t *turn) greatest(sees search.Box) int {
	if t.byUID {
		return sees.Greatest
	}
	return sees.Many
}

// uid does what stands behind it, with messages that are meant by their numbers for ever.
func (t *turn) uid() {
	deed := t.forUID(t.word())
	fit(deed != nil)
	t.byUID = true
	deed()
}

// close chooses no box any more, and takes messages away first, if it may.
func (t *turn) close() {
	t.end()
	if b, err := t.toWrite(); err == nil {
		b.Expunge(func(int) bool { return true })
	}
	t.leave()
}

// expungeAll takes all messages away that are to go.
func (t *turn) expungeAll() {
	t.end()
	t.expunge(func(int) bool { return true })
}

// expungeSome takes those of a set away that are to go.
func (t *turn) expungeSome() {
	set := t.set()
	t.end()
	greatest := t.sees().Greatest
	t.expunge(func(uid int) bool { return seq.Has(set, uid, greatest) })
}

// expunge takes messages away that are to go, and that something holds of.
func (t *turn) expunge(holds func(uid int) bool) {
	b, err := t.toWrite()
	check(err)
	b.Expunge(holds)
}

// search tells which messages are what is looked for.
func (t *turn) search() {
	key, err := search.Parse(t.rest)
	fit(err == nil)
	b, err := t.mine()
	check(err)
	sees, words := t.sees(), []string{"SEARCH"}
	t.each(b, func(place int, l api.Letter) {
		if search.Holds(key, l, place, sees) {
			words = append(words, number(t.called(place, l)))
		}
	})
	t.tell(words...)
}

// fetch tells what is asked for of messages. Who reads their texts has seen them, unless the box is only read.
func (t *turn) fetch() {
	set, asked := t.set(), itemsOf(t.allTexts())
	b, err := t.mine()
	check(err)
	reads := !t.choice.read && asked.read()
	t.eachOf(set, b, func(place int, l api.Letter) {
		if reads {
			check(b.Flag(l.UID, box.More, []string{seen}))
		}
		t.tellItems(place, letterOf(b, l.UID), asked)
	})
}

// store changes messages' flags, and tells them.
func (t *turn) store() {
	set, word, noted := t.set(), t.word(), t.allTexts()
	word, silent := strings.CutSuffix(word, ".SILENT")
	what := whatOf(word)
	b, err := t.toWrite()
	check(err)
	t.eachOf(set, b, func(place int, l api.Letter) {
		check(b.Flag(l.UID, what, noted))
		l = letterOf(b, l.UID)
		t.choice.view.Know(l.UID, l.Flags)
		if !silent {
			t.tellItems(place, l, items{{name: "FLAGS"}})
		}
	})
}

// whatOf is what a word does with flags.
func whatOf(word string) int {
	switch word {
	case "+FLAGS":
		return box.More
	case "-FLAGS":
		return box.Less
	}
	fit(word == "FLAGS")
	return box.Put
}

// letterOf is a message that a box has, as it is now.
func letterOf(b *box.Box, uid int) api.Letter {
	at, _ := b.Find(uid)
	return b.Letters[at]
}

// tellItems tells of a message what is asked for.
func (t *turn) tellItems(place int, l api.Letter, asked items) {
	if t.byUID {
		asked = asked.withUID()
	}
	t.tell(number(place), "FETCH", inBrackets(asked.of(l)...))
}

// copy puts messages into a box, as they are, all or none.
func (t *turn) copy() {
	set, name := t.set(), t.boxName()
	t.end()
	from, err := t.mine()
	check(err)
	to, err := t.house.Get(name)
	check(err)
	// Gathered first, since both may be one box.
	var letters []api.Letter
	t.eachOf(set, from, func(_ int, l api.Letter) { letters = append(letters, l) })
	if len(to.Letters)+len(letters) > api.MaxLetters || to.Next > api.MaxNumber-len(letters) {
		panic(api.ErrFull)
	}
	var were, are []int
	for _, l := range letters {
		uid, err := to.Append(l.Flags, l.Day, l.Text)
		check(err)
		were, are = append(were, l.UID), append(are, uid)
	}
	if len(letters) > 0 {
		t.tell("OK", "[COPYUID", number(to.Valid), setText(were), setText(are)+"]")
	}
}

// setText is how numbers are told as a set: nothing, if it would have too many ranges.
func setText(numbers []int) string {
	text, err := seq.Print(seq.Of(numbers))
	if err != nil {
		return ""
	}
	return text
}
