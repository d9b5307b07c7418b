package session

import (
	"strings"

	"letterbox/api"
)

// password is what everybody says who is let in.
const password = "letter"

// A turn is a command that is being done: who asks, its name, its parts, what is told, and whether messages are meant by their numbers for ever.
type turn struct {
	*Session
	parts
	name  string
	out   *lines
	byUID bool
}

// done does a command, and tells how it ended.
func (t *turn) done() (ending string) {
	defer func() { ending = endingOf(recover()) }()
	t.do()
	return
}

// endingOf is how a command ended of which that was thrown (nil: nothing). What is neither an Errno nor a misfit would be a fault of the program, and goes on.
func endingOf(thrown any) string {
	if thrown == nil {
		return "OK"
	}
	if e, ok := thrown.(api.Errno); ok {
		return "NO " + number(e)
	}
	if _, ok := thrown.(misfit); !ok {
		panic(thrown)
	}
	return "BAD " + number(api.ErrForm)
}

// check throws an error, if it is one.
func check(err error) {
	if err != nil {
		panic(api.Tell(err))
	}
}

// do does a command, if it may be done now.
func (t *turn) do() {
	if deed := t.forAll(); deed != nil {
		deed()
		return
	}
	if t.state == fresh {
		panic(api.ErrState)
	}
	if deed := t.forKnown(); deed != nil {
		deed()
		return
	}
	deed := t.forChosen()
	fit(deed != nil)
	if t.state != chosen {
		panic(api.ErrState)
	}
	deed()
}

// forAll is who does what anybody may ask for; nil: it is nothing such.
func (t *turn) forAll() func() {
	switch t.name {
	case "CAPABILITY":
		return t.capability
	case "NOOP":
		return t.noop
	case "LOGOUT":
		return t.logout
	case "LOGIN":
		return t.login
	}
	return nil
}

// forKnown is who does what may be asked for without a box that is chosen; nil: it is nothing such.
func (t *turn) forKnown() func() {
	switch t.name {
	case "CREATE":
		return t.create
	case "DELETE":
		return t.remove
	case "RENAME":
		return t.rename
	case "SUBSCRIBE":
		return t.subscribe
	case "UNSUBSCRIBE":
		return t.unsubscribe
	case "LIST":
		return t.list
	case "LSUB":
		return t.listWanted
	case "STATUS":
		return t.status
	case "APPEND":
		return t.add
	case "SELECT":
		return t.choose
	case "EXAMINE":
		return t.examine
	}
	return nil
}

// forChosen is who does what may be asked for of the box that is chosen; nil: it is nothing such.
func (t *turn) forChosen() func() {
	switch t.name {
	case "CHECK":
		return t.noop
	case "CLOSE":
		return t.close
	case "EXPUNGE":
		return t.expungeAll
	case "SEARCH":
		return t.search
	case "FETCH":
		return t.fetch
	case "STORE":
		return t.store
	case "COPY":
		return t.copy
	case "UID":
		return t.uid
	}
	return nil
}

// forUID is who does what may be asked for by messages' numbers for ever; nil: it is nothing such.
func (t *turn) forUID(name string) func() {
	switch name {
	case "EXPUNGE":
		return t.expungeSome
	case "SEARCH":
		return t.search
	case "FETCH":
		return t.fetch
	case "STORE":
		return t.store
	case "COPY":
		return t.copy
	}
	return nil
}

// tell tells words.
func (t *turn) tell(words ...string) { t.out.line("* " + strings.Join(words, " ")) }

// capability tells what may be asked for.
func (t *turn) capability() {
	t.end()
	t.tell("CAPABILITY", "IMAP4rev1", "UIDPLUS")
}

// noop does nothing.
func (t *turn) noop() { t.end() }

// logout ends the session.
func (t *turn) logout() {
	t.end()
	t.tell("BYE")
	t.stop()
}

// login lets somebody be known.
func (t *turn) login() {
	who, said := t.text(), t.text()
	t.end()
	if t.state != fresh {
		panic(api.ErrState)
	}
	if who == "" || said != password {
		panic(api.ErrFalse)
	}
	t.state = known
}
