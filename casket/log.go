package casket

import (
	"errors"
	"strconv"
	"strings"

	"casket/api"
	"casket/script"
)

const (
	firstMark = "> " // ahead of an act's first line
	nextMark  = ". " // ahead of each other one
)

// placeOf is where a text was refused, and why.
func placeOf(err error) (int, api.Errno) {
	var at *script.LineError
	if errors.As(err, &at) {
		return at.Line, at.Code
	}
	return 0, api.ErrText
}

func refusal(line int, code api.Errno) string { return logLine("refused", line, int(code)) }

// logOf does the acts and tells of each, and how the machine looks behind them.
func (m *Machine) logOf(list []api.Act) string {
	var log strings.Builder
	for _, a := range list {
		log.WriteString(marked(a))
		log.WriteString(script.Tell(m.Do(a)))
	}
	v := m.Look()
	log.WriteString(logLine("end", bit(v.Alive), bit(v.Down), v.Left, v.Calls, v.Stored))
	return log.String()
}

// marked is an act's lines. An act that was read can be written: so its error is not asked for.
func marked(a api.Act) string {
	text, _ := script.PrintAct(a)
	return firstMark + strings.ReplaceAll(text, "\n", "\n"+nextMark) + "\n"
}

func logLine(word string, numbers ...int) string {
	for _, n := range numbers {
		word += " " + strconv.Itoa(n)
	}
	return word + "\n"
}

func bit(b bool) int {
	if b {
		return 1
	}
	return 0
}
