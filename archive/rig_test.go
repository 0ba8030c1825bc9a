package archive

import (
	"crypto/sha256"
	"fmt"
	"math/rand"
	"regexp"
	"slices"
	"strconv"
	"strings"
	"testing"

	"casket/api"
	"casket/seal"
	"casket/tape"
	"casket/vault"
	"casket/world"
)

// small is the configuration of the vaults of the chapter's examples, with room for so many files.
func small(files int) api.Config {
	return api.Config{Slots: 2, Files: files, Dirs: 4, MaxFile: 100, Least: 16, Page: 256}
}

// someBytes is a text of that many bytes in which no sixteen come twice.
func someBytes(n int) string {
	r, b := rand.New(rand.NewSource(int64(n))), make([]byte, n)
	r.Read(b)
	return string(b)
}

var longTape = someBytes(4 << 20)

// rig is a vault and all that it hangs on. Two that are made in one way do the same, byte by byte.
type rig struct {
	c api.Config
	w *world.World
	t *tape.Tape
	v *vault.Vault
}

func sealerOf(t *testing.T, ideal bool) seal.Sealer {
	t.Helper()
	if ideal {
		s, e := seal.NewIdeal(nil)
		if e != api.OK {
			t.Fatalf("seal.NewIdeal: %d", e)
		}
		return s
	}
	s, e := seal.NewReal(strings.Repeat("k", 32))
	if e != api.OK {
		t.Fatalf("seal.NewReal: %d", e)
	}
	return s
}

// made is a rig with an empty vault.
func made(t *testing.T, c api.Config, ideal bool, bytes string) *rig {
	t.Helper()
	p, e := tape.New(bytes)
	if e != api.OK {
		t.Fatalf("tape.New: %d", e)
	}
	s, w := sealerOf(t, ideal), world.New()
	if e := vault.Format(w, p, s, c); e != api.OK {
		t.Fatalf("Format: %d of %+v", e, c)
	}
	v, e := vault.Recover(w, p, s, c)
	if e != api.OK {
		t.Fatalf("Recover: %d", e)
	}
	return &rig{c: c, w: w, t: p, v: v}
}

// fresh is an empty vault of the examples.
func fresh(t *testing.T, files int) *rig {
	t.Helper()
	return made(t, small(files), false, longTape)
}

func (r *rig) do(t *testing.T, ops ...api.Op) {
	t.Helper()
	for _, op := range ops {
		if results, e := r.v.Batch(op); e != api.OK || results[0].Code != api.OK {
			t.Fatalf("%+v: %v, %d", op, results, e)
		}
	}
}

// filled is the vault v of the examples, over a tape of its own.
func filledOver(t *testing.T, ideal bool, bytes string) *rig {
	t.Helper()
	r := made(t, small(4), ideal, bytes)
	r.do(t, mkdir("/a"), mkdir("/a!"), create("/a/x"), write("/a/x", "grain"), create("/b"))
	return r
}

func filled(t *testing.T) *rig {
	t.Helper()
	return filledOver(t, false, longTape)
}

func mkdir(path string) api.Op           { return api.Op{Kind: api.OpMkdir, Path: path} }
func create(path string) api.Op          { return api.Op{Kind: api.OpCreate, Path: path} }
func write(path, data string) api.Op     { return api.Op{Kind: api.OpWrite, Path: path, Data: data} }
func list(path string) api.Op            { return api.Op{Kind: api.OpList, Path: path} }
func stat(path string) api.Op            { return api.Op{Kind: api.OpStat, Path: path} }
func readOp(path string, n int) api.Op   { return api.Op{Kind: api.OpRead, Path: path, N: n} }
func dirEntry(path string) api.Entry     { return api.Entry{Path: path, Kind: api.IsDir} }
func fileEntry(path, d string) api.Entry { return api.Entry{Path: path, Kind: api.IsFile, Data: d} }

// batches counts those that were answered OK from a store call on: each puts the root once.
func (r *rig) batches(from int) int {
	n := 0
	for _, c := range r.w.Trace()[from:] {
		if c.Kind == api.CallPut && c.Name == api.RootName {
			n++
		}
	}
	return n
}

func sameCall(a, b api.Call) bool {
	return a.Kind == b.Kind && a.Name == b.Name && a.Blob == b.Blob && a.Code == b.Code && a.Reply == b.Reply && slices.Equal(a.Names, b.Names)
}

// wantSame holds two rigs' worlds, tapes and vaults against one another.
func wantSame(t *testing.T, what string, a, b *rig) {
	t.Helper()
	if !slices.EqualFunc(a.w.Trace(), b.w.Trace(), sameCall) {
		t.Errorf("%s: the traces differ (%d calls, %d calls)", what, a.w.Calls(), b.w.Calls())
	}
	if a.t.Drawn() != b.t.Drawn() || a.t.Left() != b.t.Left() {
		t.Errorf("%s: %d bytes are left of the tape, and %d", what, a.t.Left(), b.t.Left())
	}
	if a.w.Kept() != b.w.Kept() || a.w.Down() != b.w.Down() || a.v.Code() != b.v.Code() {
		t.Errorf("%s: %+v %v %d and %+v %v %d", what, a.w.Kept(), a.w.Down(), a.v.Code(), b.w.Kept(), b.w.Down(), b.v.Code())
	}
}

// summed is a text with the line of its sum.
func summed(text string) string {
	return fmt.Sprintf("%ssum %x\n", text, sha256.Sum256([]byte(text)))
}

// bodyOf is all of entries' text ahead of the sum, whether they are an archive or not.
func bodyOf(entries []api.Entry) string {
	var b strings.Builder
	fmt.Fprintf(&b, "casket archive 1\nentries %d\n", len(entries))
	for _, e := range entries {
		if e.Kind == api.IsFile {
			fmt.Fprintf(&b, "file %d %s\n%s\n", len(e.Data), e.Path, e.Data)
		} else {
			fmt.Fprintf(&b, "dir %s\n", e.Path)
		}
	}
	return b.String()
}

var pathForm = regexp.MustCompile(`^(/[!-.0-~]{1,32}){1,16}\z`)

func plainPath(path string) bool {
	return pathForm.MatchString(path) && !strings.Contains(path+"/", "/./") && !strings.Contains(path+"/", "/../")
}

// plainArchive is the words of an archive, done once more.
func plainArchive(entries []api.Entry) bool {
	kinds := map[string]int{}
	last := ""
	for _, e := range entries {
		up := e.Path[:max(0, strings.LastIndex(e.Path, "/"))]
		switch {
		case !plainPath(e.Path) || e.Path <= last || up != "" && kinds[up] != 1:
			return false
		case e.Kind != 1 && e.Kind != 2 || e.Kind == 1 && e.Data != "" || len(e.Data) > 65536:
			return false
		}
		kinds[e.Path], last = e.Kind, e.Path
	}
	return len(entries) < 1000000
}

// plainPrint is P24.2 done once more.
func plainPrint(entries []api.Entry) (string, api.Errno) {
	if !plainArchive(entries) {
		return "", 242
	}
	text := summed(bodyOf(entries))
	if len(text) > 16777216 {
		return "", 3
	}
	return text, 0
}

var (
	headForm = regexp.MustCompile(`^casket archive 1\nentries (0|[1-9][0-9]{0,5})\n`)
	dirForm  = regexp.MustCompile(`^dir ([^ \n]+)\n`)
	fileForm = regexp.MustCompile(`^file (0|[1-9][0-9]{0,5}) ([^ \n]+)\n`)
	sumForm  = regexp.MustCompile(`^sum ((?:[0-9a-f][0-9a-f])*)\n\z`)
)

// plainParse is P24.3 done once more.
func plainParse(text string) ([]api.Entry, api.Errno) {
	if len(text) > 16777216 {
		return nil, 3
	}
	head := headForm.FindStringSubmatch(text)
	if head == nil {
		return nil, 240
	}
	rest, entries := text[len(head[0]):], []api.Entry{}
	count, _ := strconv.Atoi(head[1])
	for range count {
		if m := dirForm.FindStringSubmatch(rest); m != nil {
			entries, rest = append(entries, dirEntry(m[1])), rest[len(m[0]):]
			continue
		}
		m := fileForm.FindStringSubmatch(rest)
		if m == nil {
			return nil, 240
		}
		size, _ := strconv.Atoi(m[1])
		rest = rest[len(m[0]):]
		if len(rest) <= size || rest[size] != '\n' {
			return nil, 240
		}
		entries, rest = append(entries, fileEntry(m[2], rest[:size])), rest[size+1:]
	}
	sum := sumForm.FindStringSubmatch(rest)
	switch {
	case sum == nil:
		return nil, 240
	case text != summed(strings.TrimSuffix(text, rest)):
		return nil, 241
	case !plainArchive(entries):
		return nil, 242
	}
	return entries, 0
}

// plainDo is P24.4 done once more: how many operations, from the first one on, were answered OK, their results, and the code.
func plainDo(v *vault.Vault, slots int, ops []api.Op) ([]api.Result, api.Errno) {
	var good []api.Result
	for i := 0; i < len(ops); i += slots {
		results, e := v.Batch(ops[i:min(i+slots, len(ops))]...)
		if e != 0 {
			return good, e
		}
		for _, r := range results {
			if r.Code != 0 {
				return good, r.Code
			}
			good = append(good, r)
		}
	}
	return good, 0
}

// plainPack is P24.5 done once more, but for v and slots that are refused.
func plainPack(v *vault.Vault, slots int) (string, api.Errno) {
	sizes, kinds, all := map[string]int{}, map[string]int{}, []string{}
	for level := []string{"/"}; len(level) > 0; {
		var ops []api.Op
		for _, d := range level {
			ops = append(ops, list(d))
		}
		results, e := plainDo(v, slots, ops)
		if e != 0 {
			return "", e
		}
		var paths []string
		for i, r := range results {
			for _, name := range r.Names {
				paths = append(paths, strings.TrimSuffix(level[i], "/")+"/"+name)
			}
		}
		slices.Sort(paths)
		ops, level = nil, nil
		for _, p := range paths {
			ops = append(ops, stat(p))
		}
		if results, e = plainDo(v, slots, ops); e != 0 {
			return "", e
		}
		for i, r := range results {
			kinds[paths[i]], sizes[paths[i]] = r.Kind, r.Size
			if r.Kind == 1 {
				level = append(level, paths[i])
			}
		}
		all = append(all, paths...)
	}
	slices.Sort(all)
	var ops []api.Op
	for _, p := range all {
		if sizes[p] > 0 {
			ops = append(ops, readOp(p, sizes[p]))
		}
	}
	results, e := plainDo(v, slots, ops)
	if e != 0 {
		return "", e
	}
	data := map[string]string{}
	for i, r := range results {
		data[ops[i].Path] = r.Data
	}
	var entries []api.Entry
	for _, p := range all {
		entries = append(entries, api.Entry{Path: p, Kind: kinds[p], Data: data[p]})
	}
	return summed(bodyOf(entries)), 0
}

// plainUnpack is P24.6 done once more, but for v, slots and texts that are refused.
func plainUnpack(v *vault.Vault, slots int, entries []api.Entry) (int, api.Errno) {
	if results, e := v.Batch(list("/")); e != 0 {
		return 0, e
	} else if len(results[0].Names) > 0 {
		return 0, 243
	}
	var ops []api.Op
	var ends []int // how many operations there are up to an entry's last
	for _, entry := range entries {
		switch {
		case entry.Kind == 1:
			ops = append(ops, mkdir(entry.Path))
		case entry.Data == "":
			ops = append(ops, create(entry.Path))
		default:
			ops = append(ops, create(entry.Path), write(entry.Path, entry.Data))
		}
		ends = append(ends, len(ops))
	}
	good, e := plainDo(v, slots, ops)
	whole := 0
	for whole < len(ends) && ends[whole] <= len(good) {
		whole++
	}
	return whole, e
}

// told is the entries of what the vault's single operations tell, by rising paths (P24.7).
func told(t *testing.T, v *vault.Vault) []api.Entry {
	t.Helper()
	var entries []api.Entry
	var tell func(directory string)
	tell = func(directory string) {
		names, e := v.Readdir(directory + "/"[min(1, len(directory)):])
		if e != api.OK {
			t.Fatalf("Readdir %q: %d", directory, e)
		}
		for _, name := range names {
			p := directory + "/" + name
			kind, size, e := v.Stat(p)
			if e != api.OK {
				t.Fatalf("Stat %q: %d", p, e)
			}
			if kind == api.IsDir {
				entries = append(entries, dirEntry(p))
				tell(p)
				continue
			}
			data, e := v.ReadAt(p, 0, size+1)
			if e != api.OK || len(data) != size {
				t.Fatalf("ReadAt %q: %q, %d, want %d bytes", p, data, e, size)
			}
			entries = append(entries, fileEntry(p, data))
		}
	}
	tell("")
	slices.SortFunc(entries, func(a, b api.Entry) int { return strings.Compare(a.Path, b.Path) })
	return entries
}

func wantPack(t *testing.T, what string, v *vault.Vault, slots int, want string, code api.Errno) {
	t.Helper()
	if s, e := Pack(v, slots); s != want || e != code {
		t.Errorf("%s: Pack(v, %d) = %.300q, %d, want %.300q, %d", what, slots, s, e, want, code)
	}
}

func wantUnpack(t *testing.T, what string, v *vault.Vault, slots int, text string, want int, code api.Errno) {
	t.Helper()
	if n, e := Unpack(v, slots, text); n != want || e != code {
		t.Errorf("%s: Unpack(v, %d, %.60q) = %d, %d, want %d, %d", what, slots, text, n, e, want, code)
	}
}

func wantParse(t *testing.T, text string, want []api.Entry, code api.Errno) {
	t.Helper()
	if l, e := Parse(text); !slices.Equal(l, want) || e != code || e != api.OK && l != nil {
		t.Errorf("Parse(%.200q) = %.200v, %d, want %.200v, %d", text, l, e, want, code)
	}
}

func wantPrint(t *testing.T, entries []api.Entry, want string, code api.Errno) {
	t.Helper()
	if s, e := Print(entries); s != want || e != code {
		t.Errorf("Print(%.200v) = %.200q, %d, want %.200q, %d", entries, s, e, want, code)
	}
}
