package archive

import (
	"strconv"
	"strings"

	"casket/api"
	"casket/sha"
)

const (
	lineEnd   = "\n"
	blank     = " "
	firstLine = "casket archive 1" + lineEnd

	// Each of these begins a line and has the blank behind it.
	entriesWord = "entries" + blank
	dirWord     = "dir" + blank
	fileWord    = "file" + blank
	sumWord     = "sum" + blank

	sumDigits = 64
)

// textOf is the text of what is an archive.
func textOf(entries []api.Entry) string {
	var text strings.Builder
	text.Grow(lengthOf(entries, lengthOfWhole))
	text.WriteString(headOf(len(entries)))
	for _, e := range entries {
		text.WriteString(lineOf(e, len(e.Data)))
		if e.Kind == api.IsFile {
			text.WriteString(e.Data)
			text.WriteString(lineEnd)
		}
	}
	sum := sha.Hex(sha.Sum(text.String()))
	text.WriteString(sumWord + sum + lineEnd)
	return text.String()
}

func headOf(count int) string {
	return firstLine + entriesWord + strconv.Itoa(count) + lineEnd
}

// lineOf is an entry's line. Its size is handed in, as it may be known ahead of its Data.
func lineOf(e api.Entry, size int) string {
	if e.Kind == api.IsDir {
		return dirWord + e.Path + lineEnd
	}
	return fileWord + strconv.Itoa(size) + blank + e.Path + lineEnd
}

// lengthOf is the length of the text of a list, each item of which is as long there as it says.
func lengthOf[T any](list []T, of func(T) int) int {
	length := len(headOf(len(list))) + len(sumWord) + sumDigits + len(lineEnd)
	for _, item := range list {
		length += of(item)
	}
	return length
}

func lengthOfWhole(e api.Entry) int { return lengthOfEntry(e, len(e.Data)) }

func lengthOfEntry(e api.Entry, size int) int {
	line := len(lineOf(e, size))
	if e.Kind == api.IsDir {
		return line
	}
	return line + size + len(lineEnd)
}
