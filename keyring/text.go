package keyring

import (
	"strconv"
	"strings"

	"casket/api"
	"casket/sha"
)

// title is the first line of every ring's text.
const title = "casket ring 1\n"

// Print is the text of a ring.
func Print(r api.Ring) (string, api.Errno) {
	if !isRing(r) {
		return "", api.ErrField
	}
	var b strings.Builder
	b.WriteString(title)
	b.WriteString("id " + sha.Hex(r.Id) + "\n")
	b.WriteString("slots " + strconv.Itoa(len(r.Slots)) + "\n")
	for _, s := range r.Slots {
		b.WriteString("slot " + strconv.Itoa(s.Rounds) + " " + sha.Hex(s.Salt) + " " + sha.Hex(s.Wrapped) + "\n")
	}
	return b.String() + "sum " + sha.Hex(sha.Sum(b.String())) + "\n", api.OK
}

// Parse reads it. Where a fault is thrown, the ring is not laid down and stays the zero one.
func Parse(text string) (api.Ring, api.Errno) {
	var ring api.Ring
	e := firstFault(func() { ring = readRing(text) })
	return ring, e
}

// readRing throws the first fault. The whole text is read ahead of asking for its sum, and that ahead of asking whether
// it is a ring: so a text that has not the form is told as such, whatever else is wrong with it.
func readRing(text string) api.Ring {
	r := &reader{text: text}
	r.fixed(title)
	ring := api.Ring{Id: field(r, "id ", r.bytes, "\n")}
	for range field(r, "slots ", r.number, "\n") {
		ring.Slots = append(ring.Slots, readSlot(r))
	}
	ahead := r.done()
	sum := field(r, "sum ", r.bytes, "\n")
	r.end()
	if sum != sha.Sum(ahead) {
		throw(api.ErrCheck)
	}
	if !isRing(ring) {
		throw(api.ErrField)
	}
	return ring
}

func readSlot(r *reader) api.RingSlot {
	return api.RingSlot{
		Rounds:  field(r, "slot ", r.number, " "),
		Salt:    field(r, "", r.bytes, " "),
		Wrapped: field(r, "", r.bytes, "\n"),
	}
}

func isRing(r api.Ring) bool {
	if len(r.Id) != idSize || len(r.Slots) < 1 || len(r.Slots) > api.MaxRing {
		return false
	}
	for _, s := range r.Slots {
		if len(s.Salt) != saltSize || !areRounds(s.Rounds) || len(s.Wrapped) != wrappedSize {
			return false
		}
	}
	return true
}
