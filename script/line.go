package script

import (
	"slices"
	"strings"

	"casket/api"
)

const (
	maxLine  = 262144 // bytes of a line
	maxLines = 20000  // lines that say something
	blank    = " "
)

// line is one that is written, word by word.
type line struct {
	text strings.Builder
	long bool
}

func lineOf(first string) *line {
	l := &line{}
	l.text.WriteString(first)
	return l
}

func (l *line) word(w string) {
	l.text.WriteString(blank)
	l.text.WriteString(w)
}

func (l *line) numbers(list ...int) {
	for _, n := range list {
		l.word(numberWord(n))
	}
}

func (l *line) bytes(text string) { l.wordOf(text, byteWord) }

func (l *line) hex(data string) { l.wordOf(data, hexWord) }

// wordOf does not write a text that would be too long a line by itself: it may be longer by far.
func (l *line) wordOf(text string, as func(string) string) {
	if len(text) > maxLine {
		l.long = true
		return
	}
	l.word(as(text))
}

func (l *line) done() (string, api.Errno) {
	if l.long || l.text.Len() > maxLine {
		return "", api.ErrLine
	}
	return l.text.String(), api.OK
}

// words are those of a line that were not read yet.
type words struct {
	left []string
	bad  bool // one of those that were read was not good
}

func (w *words) number() int { return next(w, readNumber) }

func (w *words) bytes() string { return next(w, readBytes) }

func (w *words) hex() string { return next(w, readHex) }

func next[T any](w *words, read func(string) (T, bool)) T {
	value, ok := read(w.left[0])
	w.left = w.left[1:]
	w.bad = w.bad || !ok
	return value
}

// code is of all words that were read.
func (w *words) code() api.Errno {
	if w.bad {
		return api.ErrWord
	}
	return api.OK
}

// form is how the line of one kind of operation, or of act, is written and read.
type form[T any] struct {
	kind  int
	word  string
	count int              // of the line's words
	write func(*line, *T)  // each field that the line names is taken out
	read  func(*words, *T) // but for the kind
}

// take answers what a field holds, and leaves it zero: what is not zero behind all of a line's fields, the line does not name.
func take[T any](field *T) T {
	value := *field
	var zero T
	*field = zero
	return value
}

// written is a value's line, by the form of its kind; isNothing tells whether all that is left of it can be left out.
func written[T any](forms []form[T], kind int, value T, isNothing func(T) bool) (string, api.Errno) {
	i := slices.IndexFunc(forms, func(f form[T]) bool { return f.kind == kind })
	if i < 0 {
		return "", api.ErrStep
	}
	l := lineOf(forms[i].word)
	forms[i].write(l, &value)
	if !isNothing(value) {
		return "", api.ErrPrint
	}
	return l.done()
}

// told is what a line tells, by the form of its first word: the kind, and the rest.
func told[T any](forms []form[T], list []string) (int, T, api.Errno) {
	var value, none T
	i := slices.IndexFunc(forms, func(f form[T]) bool { return f.word == list[0] })
	if i < 0 {
		return 0, none, api.ErrStep
	}
	if len(list) != forms[i].count {
		return 0, none, api.ErrWords
	}
	w := &words{left: list[1:]}
	forms[i].read(w, &value)
	if e := w.code(); e != api.OK {
		return 0, none, e
	}
	return forms[i].kind, value, api.OK
}
