package script

import (
	"strings"

	"casket/api"
)

// place is where the reader is: what the next line may be.
type place int

const (
	atConfig place = iota
	atSeal
	atTape // or at acts
	amongActs
	withinBatch
)

// reader goes through a play's text, line by line.
type reader struct {
	place place
	said  int // lines that said something
	play  api.Play
	tape  strings.Builder
}

// read is the first error, with its line. The lines are cut off one by one, as there may be any number of empty ones.
func (r *reader) read(text string) (int, api.Errno) {
	for number := 1; text != ""; number++ {
		var line string
		line, text, _ = strings.Cut(text, "\n")
		if e := r.line(line); e != api.OK {
			return number, e
		}
	}
	if r.place != amongActs {
		return 0, api.ErrText
	}
	return 0, api.OK
}

func (r *reader) whole() api.Play {
	r.play.Tape = r.tape.String()
	return r.play
}

func (r *reader) line(line string) api.Errno {
	if len(line) > maxLine {
		return api.ErrLine
	}
	if line == "" || line[0] == '#' {
		return api.OK
	}
	r.said++
	if r.said > maxLines {
		return api.ErrLines
	}
	list := strings.Split(line, blank)
	switch r.place {
	case amongActs:
		return r.act(list)
	case withinBatch:
		return r.operation(list)
	}
	return r.head(list)
}

// head is a line ahead of the acts, or the one that leads to them.
func (r *reader) head(list []string) api.Errno {
	first := list[0]
	switch {
	case r.place == atConfig && first == configWord:
		return r.config(list)
	case r.place == atSeal && first == sealWord:
		return r.seal(list)
	case r.place == atTape && first == tapeWord:
		return r.piece(list)
	case r.place == atTape && first == actsWord:
		return r.toActs(list)
	}
	return api.ErrText
}

func (r *reader) config(list []string) api.Errno {
	if len(list) != 7 {
		return api.ErrWords
	}
	w := &words{left: list[1:]}
	r.play.Config = api.Config{
		Slots:   w.number(),
		Files:   w.number(),
		Dirs:    w.number(),
		MaxFile: w.number(),
		Least:   w.number(),
		Page:    w.number(),
	}
	r.place = atSeal
	return w.code()
}

func (r *reader) seal(list []string) api.Errno {
	r.place = atTape
	switch {
	case len(list) != 2 && len(list) != 3:
		return api.ErrWords
	case len(list) == 2 && list[1] == idealWord:
		r.play.Ideal = true
		return api.OK
	case len(list) == 3 && list[1] == realWord:
		w := &words{left: list[2:]}
		r.play.Master = w.hex()
		return w.code()
	}
	return api.ErrWord
}

func (r *reader) piece(list []string) api.Errno {
	if len(list) != 2 {
		return api.ErrWords
	}
	w := &words{left: list[1:]}
	r.tape.WriteString(w.hex())
	return w.code()
}

// toActs is of the lines behind which acts may stand: acts itself, and the end of a batch.
func (r *reader) toActs(list []string) api.Errno {
	if len(list) != 1 {
		return api.ErrWords
	}
	r.place = amongActs
	return api.OK
}

func (r *reader) act(list []string) api.Errno {
	kind, a, e := told(acts(), list)
	if e != api.OK {
		return e
	}
	a.Kind = kind
	r.play.Acts = append(r.play.Acts, a)
	if kind == api.ActBatch {
		r.place = withinBatch
	}
	return api.OK
}

func (r *reader) operation(list []string) api.Errno {
	if list[0] == endWord {
		return r.toActs(list)
	}
	kind, op, e := told(operations(), list)
	if e != api.OK {
		return e
	}
	op.Kind = kind
	batch := &r.play.Acts[len(r.play.Acts)-1]
	batch.Ops = append(batch.Ops, op)
	return api.OK
}
