package keyring

import (
	"strings"

	"casket/api"
	"casket/sha"
)

// maxDigits is how many digits a number has at most.
const maxDigits = 4

// reader goes through a text from the front, and throws ErrForm where it is not as it must be.
type reader struct {
	text string
	at   int
}

// field reads one field, with what stands fixed on both sides of it.
func field[T any](r *reader, ahead string, read func() T, behind string) T {
	r.fixed(ahead)
	value := read()
	r.fixed(behind)
	return value
}

func (r *reader) fixed(want string) {
	if !strings.HasPrefix(r.text[r.at:], want) {
		throw(api.ErrForm)
	}
	r.at += len(want)
}

// number is of digits without a 0 ahead of others.
func (r *reader) number() int {
	digits := r.word()
	if len(digits) < 1 || len(digits) > maxDigits || len(digits) > 1 && digits[0] == '0' {
		throw(api.ErrForm)
	}
	n := 0
	for i := range len(digits) {
		if digits[i] < '0' || digits[i] > '9' {
			throw(api.ErrForm)
		}
		n = 10*n + int(digits[i]-'0')
	}
	return n
}

func (r *reader) bytes() string {
	data, e := sha.Unhex(r.word())
	if e != api.OK {
		throw(api.ErrForm)
	}
	return data
}

// word goes up to the next blank or line feed: one of them ends every field.
func (r *reader) word() string {
	rest := r.text[r.at:]
	n := strings.IndexAny(rest, " \n")
	if n < 0 {
		throw(api.ErrForm)
	}
	r.at += n
	return rest[:n]
}

// done is what has been read so far.
func (r *reader) done() string { return r.text[:r.at] }

func (r *reader) end() {
	if r.at != len(r.text) {
		throw(api.ErrForm)
	}
}

// fault has a type of its own, so that nothing else that is thrown is taken for one.
type fault struct{ code api.Errno }

func throw(code api.Errno) { panic(fault{code}) }

// firstFault is the fault that the reading throws, or OK. What is no fault is not caught: it would be hidden.
func firstFault(reading func()) (e api.Errno) {
	defer func() {
		switch thrown := recover().(type) {
		case nil:
		case fault:
			e = thrown.code
		default:
			panic(thrown)
		}
	}()
	reading()
	return api.OK
}
