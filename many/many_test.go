package many_test

import (
	"fmt"
	"math"
	"slices"
	"strings"
	"sync"
	"testing"

	"letterbox/api"
	"letterbox/desk"
	"letterbox/many"
)

// someTexts are texts, each with answers of its own, some of them long, some short.
func someTexts(n int) []string {
	var out []string
	for i := range n {
		switch i % 5 {
		case 0:
			out = append(out, fmt.Sprint("text ", i))
		case 1:
			out = append(out, "open\nline 0 a LOGIN me letter\n"+strings.Repeat(fmt.Sprintf("line 0 b APPEND inbox %d\nnames\nkeep\nsame 0\n", i), 20+i))
		case 2:
			out = append(out, strings.Repeat("x", api.MaxText+1-i%2))
		case 3:
			out = append(out, fmt.Sprintf("open\nline 0 a LOGIN me letter\nline 0 b CREATE box%d\nnames\nkeep\nrestore 0\nnames\nfeed 0", i))
		case 4:
			out = append(out, "")
		}
	}
	return out
}

// eachAlone is Session of each.
func eachAlone(texts []string) []string {
	var out []string
	for _, s := range texts {
		out = append(out, desk.Session(s))
	}
	return out
}

// tells says that texts are answered as each is alone.
func tells(t *testing.T, texts []string, workers int) {
	t.Helper()
	got, err := many.All(texts, workers)
	if want := eachAlone(texts); err != nil || !slices.Equal(got, want) {
		t.Errorf("%d texts, %d workers: %.500q, %v, not %.500q", len(texts), workers, got, err, want)
	}
}

// refuses says that it is too much, and that nothing else is told.
func refuses(t *testing.T, texts []string, workers int) {
	t.Helper()
	if got, err := many.All(texts, workers); err != error(api.ErrLimit) || got != nil {
		t.Errorf("%d texts, %d workers: %.500q, %v", len(texts), workers, got, err)
	}
}

func TestHowManyTexts(t *testing.T) {
	for _, workers := range []int{1, 2, 15, 16} {
		for _, n := range []int{0, 1, 2, 15, 16, 17, 49, 50} {
			tells(t, someTexts(n), workers)
		}
		for _, n := range []int{51, 52, 100, 1000} {
			refuses(t, make([]string, n), workers)
		}
		refuses(t, someTexts(51), workers)
	}
}

func TestHowManyWorkers(t *testing.T) {
	for _, workers := range []int{0, -1, -16, 17, 18, 50, math.MaxInt, math.MinInt} {
		for _, n := range []int{0, 1, 16, 50, 51} {
			refuses(t, make([]string, n), workers)
		}
		refuses(t, nil, workers)
	}
	for workers := 1; workers <= 16; workers++ {
		tells(t, someTexts(3), workers)
	}
}

func TestNoTexts(t *testing.T) {
	for workers := 1; workers <= 16; workers++ {
		for _, texts := range [][]string{nil, {}} {
			if got, err := many.All(texts, workers); err != nil || len(got) != 0 {
				t.Errorf("%d workers: %q, %v", workers, got, err)
			}
		}
	}
}

func TestAnyWorkersTellTheSame(t *testing.T) {
	texts := someTexts(50)
	want := eachAlone(texts)
	if n := len(slices.Compact(slices.Sorted(slices.Values(want)))); n < 30 {
		t.Fatalf("%d answers only are others", n)
	}
	for range 3 {
		for workers := 1; workers <= 16; workers++ {
			got, err := many.All(texts, workers)
			if err != nil || !slices.Equal(got, want) {
				t.Errorf("%d workers tell something else: %v", workers, err)
			}
		}
	}
}

// The same text many times: no house is another one's.
func TestHousesOfTheirOwn(t *testing.T) {
	text := "open\nline 0 a LOGIN me letter\nline 0 b CREATE a\nnames\nkeep"
	want := "open 0\nline \"a%20OK%0d%0a\"\nline \"b%20OK%0d%0a\"\nnames INBOX a\nkeep 0 29\n"
	texts := slices.Repeat([]string{text}, 50)
	for workers := 1; workers <= 16; workers++ {
		got, err := many.All(texts, workers)
		if err != nil || !slices.Equal(got, slices.Repeat([]string{want}, 50)) {
			t.Errorf("%d workers: %.500q, %v", workers, got, err)
		}
	}
}

// An error of a text is told in its answer alone.
func TestErrorsInTexts(t *testing.T) {
	got, err := many.All([]string{"open", strings.Repeat("x", api.MaxText+1), "x", "", "feed 0"}, 3)
	if want := []string{"open 0\n", "error 4\n", "error 3\n", "ok\n", "error 7\n"}; err != nil || !slices.Equal(got, want) {
		t.Errorf("%q, %v, not %q", got, err, want)
	}
}

// What is handed in is not written into, nor what stands behind it; what comes out is the caller's.
func TestLists(t *testing.T) {
	room := someTexts(20)
	before := slices.Clone(room)
	got, err := many.All(room[:10], 4)
	if err != nil || !slices.Equal(room, before) {
		t.Fatalf("texts were changed: %v", err)
	}
	for i := range got {
		got[i] = "other"
	}
	if !slices.Equal(room, before) {
		t.Error("answers lie in the texts")
	}
	for i := range room {
		room[i] = "open"
	}
	again, err := many.All(before[:10], 4)
	if err != nil || !slices.Equal(again, eachAlone(before[:10])) {
		t.Errorf("another call is told something else: %v", err)
	}
}

// Several may ask at the same time.
func TestCallsBesideOneAnother(t *testing.T) {
	texts := someTexts(25)
	want := eachAlone(texts)
	var all sync.WaitGroup
	for workers := 1; workers <= 8; workers++ {
		all.Add(1)
		go func() {
			defer all.Done()
			if got, err := many.All(texts, workers); err != nil || !slices.Equal(got, want) {
				t.Errorf("%d workers tell something else: %v", workers, err)
			}
		}()
	}
	all.Wait()
}
