package script

import "casket/api"

// operations is the lines that stand within a batch.
func operations() []form[api.Op] {
	return []form[api.Op]{
		{kind: api.OpMkdir, word: "mkdir", count: 2, write: writePath, read: readPath},
		{kind: api.OpCreate, word: "create", count: 2, write: writePath, read: readPath},
		{kind: api.OpRemove, word: "remove", count: 2, write: writePath, read: readPath},
		{kind: api.OpRmdir, word: "rmdir", count: 2, write: writePath, read: readPath},
		{kind: api.OpList, word: "list", count: 2, write: writePath, read: readPath},
		{kind: api.OpStat, word: "stat", count: 2, write: writePath, read: readPath},
		{kind: api.OpRead, word: "read", count: 4, write: writeRead, read: readRead},
		{kind: api.OpWrite, word: "write", count: 4, write: writeWrite, read: readWrite},
		{kind: api.OpCut, word: "cut", count: 3, write: writeCut, read: readCut},
		{kind: api.OpRename, word: "rename", count: 3, write: writeRename, read: readRename},
	}
}

func writePath(l *line, op *api.Op) { l.bytes(take(&op.Path)) }

func readPath(w *words, op *api.Op) { op.Path = w.bytes() }

func writeRead(l *line, op *api.Op) {
	writePath(l, op)
	l.numbers(take(&op.At), take(&op.N))
}

func readRead(w *words, op *api.Op) {
	readPath(w, op)
	op.At, op.N = w.number(), w.number()
}

func writeWrite(l *line, op *api.Op) {
	writePath(l, op)
	l.numbers(take(&op.At))
	l.bytes(take(&op.Data))
}

func readWrite(w *words, op *api.Op) {
	readPath(w, op)
	op.At, op.Data = w.number(), w.bytes()
}

func writeCut(l *line, op *api.Op) {
	writePath(l, op)
	l.numbers(take(&op.N))
}

func readCut(w *words, op *api.Op) {
	readPath(w, op)
	op.N = w.number()
}

func writeRename(l *line, op *api.Op) {
	writePath(l, op)
	l.bytes(take(&op.To))
}

func readRename(w *words, op *api.Op) {
	readPath(w, op)
	op.To = w.bytes()
}

// acts is the lines that stand among the acts; of a batch the first.
func acts() []form[api.Act] {
	return []form[api.Act]{
		{kind: api.ActFormat, word: "format", count: 1, write: writeAlone, read: readAlone},
		{kind: api.ActRecover, word: "recover", count: 1, write: writeAlone, read: readAlone},
		{kind: api.ActPower, word: "power", count: 1, write: writeAlone, read: readAlone},
		{kind: api.ActBatch, word: "batch", count: 1, write: writeBatch, read: readAlone},
		{kind: api.ActFuse, word: "fuse", count: 2, write: writeFuse, read: readFuse},
		{kind: api.ActEdit, word: "edit", count: 7, write: writeEdit, read: readEdit},
	}
}

func writeAlone(*line, *api.Act) {}

func readAlone(*words, *api.Act) {}

// writeBatch leaves the operations to lines of their own.
func writeBatch(_ *line, a *api.Act) { take(&a.Ops) }

func writeFuse(l *line, a *api.Act) { l.numbers(take(&a.I)) }

func readFuse(w *words, a *api.Act) { a.I = w.number() }

func writeEdit(l *line, a *api.Act) {
	e := take(&a.Edit)
	l.numbers(e.Before, e.Kind, e.Put, e.From)
	l.bytes(e.Name)
	l.bytes(e.Blob)
}

func readEdit(w *words, a *api.Act) {
	a.Edit = api.Edit{
		Before: w.number(),
		Kind:   w.number(),
		Put:    w.number(),
		From:   w.number(),
		Name:   w.bytes(),
		Blob:   w.bytes(),
	}
}
