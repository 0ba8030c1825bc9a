package sim

import (
	"slices"
	"strings"

	"casket/api"
	"casket/seal"
)

// seal makes a blob of each place, in order, and notes what lies behind the root, the last one: these rows, but for those
// that are touched, and the pages.
func (s *simulator) seal(places []place, touches []api.Touch, rows []api.Ref) ([]api.Blob, *known) {
	var blobs []api.Blob
	var refs []api.Ref
	for _, p := range places {
		// Coins that were drawn for the place are not refused.
		blob, _ := s.sealer.Seal(p.kind, p.name, strings.Repeat("\x00", p.size), p.coins)
		blobs = append(blobs, api.Blob{Name: p.name, Blob: blob})
		refs = append(refs, api.Ref{Name: p.name, Tag: seal.Tag(blob)})
	}
	behind := &known{rows: slices.Clone(rows), pages: refs[len(touches) : len(touches)+s.pages]}
	for i, t := range touches {
		behind.rows[t.Object] = refs[i]
	}
	s.roots[refs[len(refs)-1].Tag] = behind
	return blobs, behind
}

// put lays the blobs down; the root, the last one, makes them count. It tells how far that came; from is how far the act had
// come ahead of it.
func (s *simulator) put(blobs []api.Blob, from reach) reach {
	objects, root := blobs[:len(blobs)-1], blobs[len(blobs)-1]
	for _, b := range objects {
		if s.Put(b.Name, b.Blob) != api.OK {
			return from
		}
	}
	if s.Pend(seal.Tag(root.Blob)) != api.OK {
		return from
	}
	if s.Put(root.Name, root.Blob) != api.OK || s.Commit() != api.OK {
		return pended
	}
	return committed
}

// remove lets go what is away already. It is false where the power failed.
func (s *simulator) remove(names []string) bool {
	for _, name := range names {
		if s.Delete(name) == api.ErrDown {
			return false
		}
	}
	return true
}

// fetch gets objects one by one, and tells the first thing that is wrong: with the power, or with what lies there.
func (s *simulator) fetch(kind int, refs []api.Ref) api.Errno {
	for _, ref := range refs {
		blob, e := s.Get(ref.Name)
		if e != api.OK {
			return e
		}
		if e := s.opens(kind, ref, blob); e != api.OK {
			return e
		}
	}
	return api.OK
}

// opens tells whether the blob is what was sealed for this place: an older one of the same name may open, but has another
// tag.
func (s *simulator) opens(kind int, ref api.Ref, blob string) api.Errno {
	if seal.Tag(blob) != ref.Tag {
		return api.ErrSealed
	}
	_, e := s.sealer.Open(kind, ref.Name, blob)
	return e
}

// stopUnlessDown stops the register for good, but where it was the power that failed: behind that no call is made.
func (s *simulator) stopUnlessDown(e api.Errno) {
	if e != api.ErrDown {
		s.Stop()
	}
}
