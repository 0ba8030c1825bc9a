package script

import (
	"slices"
	"strings"

	"casket/api"
)

const (
	configWord = "config"
	sealWord   = "seal"
	idealWord  = "ideal"
	realWord   = "real"
	tapeWord   = "tape"
	actsWord   = "acts"
	endWord    = "end"
	codeWord   = "code"
	resultWord = "result"
)

const (
	headLines = 3  // config, seal and acts
	tapePiece = 64 // bytes of the tape in a line
)

// withOps is the lines of a batch, behind its first.
func withOps(first string, ops []api.Op) (string, api.Errno) {
	var b strings.Builder
	b.WriteString(first)
	for _, op := range ops {
		text, e := PrintOp(op)
		if e != api.OK {
			return "", e
		}
		b.WriteString("\n" + text)
	}
	b.WriteString("\n" + endWord)
	return b.String(), api.OK
}

func configLine(c api.Config) string {
	l := lineOf(configWord)
	l.numbers(c.Slots, c.Files, c.Dirs, c.MaxFile, c.Least, c.Page)
	return l.text.String()
}

func sealLine(p api.Play) (string, api.Errno) {
	l := lineOf(sealWord)
	if p.Ideal {
		l.word(idealWord)
	} else {
		l.word(realWord)
		l.hex(p.Master)
	}
	return l.done()
}

// tapeLines is how many lines a tape has.
func tapeLines(tape string) int { return (len(tape) + tapePiece - 1) / tapePiece }

func tapeText(tape string) string {
	var b strings.Builder
	for piece := range slices.Chunk([]byte(tape), tapePiece) {
		b.WriteString(tapeWord + blank + hexWord(string(piece)) + "\n")
	}
	return b.String()
}

// actLines is the lines of the acts, and how many lines there are with those ahead of them. Every act is asked, since its
// error comes ahead of too many lines; but the lines are kept only as long as they are not too many.
func actLines(list []api.Act, ahead int) (string, int, api.Errno) {
	var b strings.Builder
	count := ahead
	for _, a := range list {
		text, e := PrintAct(a)
		if e != api.OK {
			return "", 0, e
		}
		count += 1 + strings.Count(text, "\n")
		if count <= maxLines {
			b.WriteString(text + "\n")
		}
	}
	return b.String(), count, api.OK
}

func answerText(a api.Answer) string {
	var b strings.Builder
	b.WriteString(codeWord + blank + numberWord(int(a.Code)) + "\n")
	for _, r := range a.Results {
		b.WriteString(resultLine(r) + "\n")
	}
	return b.String()
}

// resultLine has no limit: it is for looking at, and nothing reads it.
func resultLine(r api.Result) string {
	l := lineOf(resultWord)
	l.numbers(int(r.Code), r.N, r.Kind, r.Size)
	l.word(byteWord(r.Data))
	for _, name := range r.Names {
		l.word(byteWord(name))
	}
	return l.text.String()
}
