package desk

import (
	"strconv"
	"strings"

	"letterbox/api"
)

// words are those of a line that were not taken yet.
type words struct{ rest []string }

// wordsOf are the words of a line.
func wordsOf(line string) *words { return &words{strings.FieldsFunc(line, isBlank)} }

// isBlank says whether a rune stands between words. A tab does not.
func isBlank(r rune) bool { return r == ' ' }

// areOver says whether no word is left.
func (w *words) areOver() bool { return len(w.rest) == 0 }

// end is behind the last word: ErrForm, if any is left.
func (w *words) end() {
	if !w.areOver() {
		panic(api.ErrForm)
	}
}

// next takes the next word. ErrForm: there is none.
func (w *words) next() string {
	if w.areOver() {
		panic(api.ErrForm)
	}
	word := w.rest[0]
	w.rest = w.rest[1:]
	return word
}

// number takes the next word, a number. ErrForm: it is none.
func (w *words) number() int {
	word := w.next()
	n, err := strconv.ParseInt(word, 10, 64)
	// Written again it tells what else the library reads: a + ahead, noughts ahead, and -0.
	if err != nil || strconv.FormatInt(n, 10) != word {
		panic(api.ErrForm)
	}
	return int(n)
}

// all takes all words that are left, with one blank between.
func (w *words) all() string {
	text := strings.Join(w.rest, " ")
	w.rest = nil
	return text
}

// bytes takes all words that are left, as bytes: no line can have a line feed, so that | stands for the end of a line in them.
func (w *words) bytes() string { return strings.ReplaceAll(w.all(), "|", lineEnd) }
