package script

import (
	"errors"
	"fmt"
	"math"
	"math/big"
	"math/rand"
	"reflect"
	"regexp"
	"slices"
	"strings"
	"testing"

	"casket/api"
)

// The limits as the chapter says them, whatever the program's own constants are.
const (
	lineLimit  = 262144
	linesLimit = 20000
)

const (
	idealHead = "config 1 2 3 4 5 6\nseal ideal\nacts\n"
	noHead    = "config 0 0 0 0 0 0\nseal ideal\n"
)

// allOps is one operation of each kind, with all that its line names and nothing else.
func allOps() []api.Op {
	return []api.Op{
		{Kind: api.OpMkdir, Path: "/m"},
		{Kind: api.OpCreate, Path: "/c"},
		{Kind: api.OpRead, Path: "/r", At: 1, N: 2},
		{Kind: api.OpWrite, Path: "/w", At: 3, Data: "d"},
		{Kind: api.OpCut, Path: "/k", N: 4},
		{Kind: api.OpRename, Path: "/n", To: "/t"},
		{Kind: api.OpRemove, Path: "/x"},
		{Kind: api.OpRmdir, Path: "/y"},
		{Kind: api.OpList, Path: "/l"},
		{Kind: api.OpStat, Path: "/s"},
	}
}

func opLines() []string {
	return []string{"mkdir =/m", "create =/c", "read =/r 1 2", "write =/w 3 =d", "cut =/k 4", "rename =/n =/t", "remove =/x", "rmdir =/y", "list =/l", "stat =/s"}
}

// allActs is one act of each kind, likewise.
func allActs() []api.Act {
	return []api.Act{
		{Kind: api.ActFormat},
		{Kind: api.ActRecover},
		{Kind: api.ActBatch, Ops: []api.Op{{Kind: api.OpStat, Path: "/"}}},
		{Kind: api.ActFuse, I: 7},
		{Kind: api.ActPower},
		{Kind: api.ActEdit, Edit: api.Edit{Before: 1, Kind: 2, Put: 3, From: 4, Name: "n", Blob: "b"}},
	}
}

func actLinesWanted() []string {
	return []string{"format", "recover", "batch\nstat =/\nend", "fuse 7", "power", "edit 1 2 3 4 =n =b"}
}

func checkOp(t *testing.T, op api.Op, want string, code api.Errno) {
	t.Helper()
	if text, e := PrintOp(op); text != want || e != code {
		t.Errorf("PrintOp(%.100v) = %.100q, %d, want %.100q, %d", op, text, e, want, code)
	}
}

func checkAct(t *testing.T, a api.Act, want string, code api.Errno) {
	t.Helper()
	if text, e := PrintAct(a); text != want || e != code {
		t.Errorf("PrintAct(%.100v) = %.100q, %d, want %.100q, %d", a, text, e, want, code)
	}
}

func checkPrint(t *testing.T, p api.Play, want string, code api.Errno) {
	t.Helper()
	if text, e := Print(p); text != want || e != code {
		t.Errorf("Print(%.100v) = %.100q, %d, want %.100q, %d", p, text, e, want, code)
	}
}

// checkRefused holds for every refusal what P22.5 says, too.
func checkRefused(t *testing.T, text string, line int, code api.Errno) {
	t.Helper()
	p, err := Parse(text)
	var le *LineError
	if !errors.As(err, &le) || le == nil || *le != (LineError{line, code}) {
		t.Errorf("Parse(%.100q) has the error %v, want line %d, code %d", text, err, line, code)
		return
	}
	if _, is := err.(*LineError); !is || !errors.Is(err, Refused) {
		t.Errorf("Parse(%.100q): the error is no *LineError that wraps Refused", text)
	}
	if want := fmt.Sprintf("line %d: code %d", line, code); err.Error() != want {
		t.Errorf("Parse(%.100q): the error says %q, want %q", text, err.Error(), want)
	}
	if !reflect.DeepEqual(p, api.Play{}) {
		t.Errorf("Parse(%.100q): the play %.100v beside an error", text, p)
	}
}

func parsed(t *testing.T, text string) api.Play {
	t.Helper()
	p, err := Parse(text)
	if err != nil {
		t.Fatalf("Parse(%.100q): %v", text, err)
	}
	return p
}

func checkParsed(t *testing.T, text string, want api.Play) {
	t.Helper()
	if p := parsed(t, text); !samePlay(p, want) {
		t.Errorf("Parse(%.100q) = %.200v, want %.200v", text, p, want)
	}
}

// samePlay takes lists that are nil and lists that are empty as the same.
func samePlay(p, q api.Play) bool {
	sameAct := func(a, b api.Act) bool {
		return a.Kind == b.Kind && a.I == b.I && a.Edit == b.Edit && slices.Equal(a.Ops, b.Ops)
	}
	return p.Config == q.Config && p.Ideal == q.Ideal && p.Master == q.Master && p.Tape == q.Tape &&
		slices.EqualFunc(p.Acts, q.Acts, sameAct)
}

// P22.1

func TestPrintOpExamples(t *testing.T) {
	checkOp(t, api.Op{Kind: api.OpWrite, Path: "/a b", At: 3, Data: "x="}, "write =/a%20b 3 =x%3d", api.OK)
	checkOp(t, api.Op{Kind: api.OpWrite, Path: "/a b", At: 3, Data: "x=", N: 1}, "", api.ErrPrint)
	checkOp(t, api.Op{Kind: 11}, "", api.ErrStep)
	checkOp(t, api.Op{Kind: api.OpRename, Path: "/a", To: "/b"}, "rename =/a =/b", api.OK)
}

func TestPrintOpKinds(t *testing.T) {
	for i, op := range allOps() {
		checkOp(t, op, opLines()[i], api.OK)
		word, _, _ := strings.Cut(opLines()[i], " ")
		blanks := strings.Count(opLines()[i], " ")
		empty := map[int]string{1: " =", 2: " = 0", 3: " = 0 0"}[blanks]
		switch op.Kind {
		case api.OpWrite:
			empty = " = 0 ="
		case api.OpRename:
			empty = " = ="
		}
		checkOp(t, api.Op{Kind: op.Kind}, word+empty, api.OK)
	}
	for _, kind := range []int{0, 11, 12, -1, 257, math.MaxInt, math.MinInt} {
		checkOp(t, api.Op{Kind: kind}, "", api.ErrStep)
		checkOp(t, api.Op{Kind: kind, Path: "/", To: "/", At: 1, N: 1, Data: "x"}, "", api.ErrStep)
	}
}

// foreign is which fields of an operation its line does not name.
func foreign(kind int) []func(*api.Op) {
	to := func(op *api.Op) { op.To = "t" }
	at := func(op *api.Op) { op.At = -1 }
	n := func(op *api.Op) { op.N = 1 }
	data := func(op *api.Op) { op.Data = "\x00" }
	switch kind {
	case api.OpRead:
		return []func(*api.Op){to, data}
	case api.OpWrite:
		return []func(*api.Op){to, n}
	case api.OpCut:
		return []func(*api.Op){to, at, data}
	case api.OpRename:
		return []func(*api.Op){at, n, data}
	}
	return []func(*api.Op){to, at, n, data}
}

func TestPrintOpForeignFields(t *testing.T) {
	for _, op := range allOps() {
		for _, set := range foreign(op.Kind) {
			other := op
			set(&other)
			checkOp(t, other, "", api.ErrPrint)
			other.Path = strings.Repeat("a", lineLimit+1)
			checkOp(t, other, "", api.ErrPrint) // ahead of ErrLine
			other.Path = strings.Repeat("=", lineLimit/2)
			checkOp(t, other, "", api.ErrPrint)
		}
	}
}

func TestPrintOpLongest(t *testing.T) {
	for i, op := range allOps() {
		room := lineLimit - len(opLines()[i])
		longer := func(by int, fill string) api.Op {
			o := op
			o.Path += strings.Repeat(fill, by)
			return o
		}
		if text, e := PrintOp(longer(room, "a")); e != api.OK || len(text) != lineLimit {
			t.Errorf("of the kind %d a line of %d bytes: %d bytes, %d", op.Kind, lineLimit, len(text), e)
		}
		checkOp(t, longer(room+1, "a"), "", api.ErrLine)
		if _, e := PrintOp(longer(room/3, "=")); e != api.OK {
			t.Errorf("of the kind %d a line with escapes: %d", op.Kind, e)
		}
		checkOp(t, longer(room/3+1, "="), "", api.ErrLine)
		checkOp(t, longer(1<<24, "="), "", api.ErrLine)
	}
	checkOp(t, api.Op{Kind: api.OpWrite, Data: strings.Repeat("d", lineLimit+1)}, "", api.ErrLine)
	checkOp(t, api.Op{Kind: api.OpWrite, Data: strings.Repeat("d", lineLimit)}, "", api.ErrLine)
	checkOp(t, api.Op{Kind: api.OpRename, To: strings.Repeat("d", lineLimit+1)}, "", api.ErrLine)
	half := strings.Repeat("d", lineLimit/2)
	checkOp(t, api.Op{Kind: api.OpRename, Path: half, To: half}, "", api.ErrLine)
}

func TestPrintOpBytes(t *testing.T) {
	const plain = "abcdefghijklmnopqrstuvwxyzABCDEFGHIJKLMNOPQRSTUVWXYZ0123456789._-/"
	for c := range 256 {
		text, want := string([]byte{byte(c)}), fmt.Sprintf("%%%02x", c)
		if strings.Contains(plain, text) {
			want = text
		}
		checkOp(t, api.Op{Kind: api.OpStat, Path: text}, "stat ="+want, api.OK)
		checkOp(t, api.Op{Kind: api.OpStat, Path: "a" + text + "b" + text + text}, "stat =a"+want+"b"+want+want, api.OK)
	}
	for text, want := range map[string]string{
		"é":                "=%c3%a9",
		"\xc3":             "=%c3",
		"a\xc3b":           "=a%c3b",
		"\ufffd":           "=%ef%bf%bd",
		"€a\U0001f600\xff": "=%e2%82%aca%f0%9f%98%80%ff",
		"\xe2\x82":         "=%e2%82",
		"\n\r\t\x00":       "=%0a%0d%09%00",
		"%41":              "=%2541",
	} {
		checkOp(t, api.Op{Kind: api.OpStat, Path: text}, "stat "+want, api.OK)
		checkOp(t, api.Op{Kind: api.OpWrite, Data: text}, "write = 0 "+want, api.OK)
		checkOp(t, api.Op{Kind: api.OpRename, To: text}, "rename = "+want, api.OK)
	}
}

func TestPrintOpNumbers(t *testing.T) {
	for n, want := range map[int]string{0: "0", -1: "-1", 10: "10", math.MaxInt: "9223372036854775807", math.MinInt: "-9223372036854775808"} {
		checkOp(t, api.Op{Kind: api.OpCut, N: n}, "cut = "+want, api.OK)
		checkOp(t, api.Op{Kind: api.OpRead, At: n, N: 5}, "read = "+want+" 5", api.OK)
		checkOp(t, api.Op{Kind: api.OpWrite, At: n}, "write = "+want+" =", api.OK)
		checkAct(t, api.Act{Kind: api.ActFuse, I: n}, "fuse "+want, api.OK)
	}
}

func TestPrintActExamples(t *testing.T) {
	checkAct(t, api.Act{Kind: api.ActBatch}, "batch\nend", api.OK)
	ops := []api.Op{{Kind: api.OpStat, Path: "/"}, {Kind: api.OpList, Path: "/"}}
	checkAct(t, api.Act{Kind: api.ActBatch, Ops: ops}, "batch\nstat =/\nlist =/\nend", api.OK)
	checkAct(t, api.Act{Kind: api.ActFuse, I: -1}, "fuse -1", api.OK)
	checkAct(t, api.Act{Kind: api.ActPower, I: 1}, "", api.ErrPrint)
	checkAct(t, api.Act{Kind: 7}, "", api.ErrStep)
	checkAct(t, api.Act{Kind: api.ActEdit, Edit: api.Edit{Before: 2, Kind: api.EditAdd, Name: "n", Blob: "\x00"}}, "edit 2 6 0 0 =n =%00", api.OK)
}

func TestPrintActKinds(t *testing.T) {
	for i, a := range allActs() {
		checkAct(t, a, actLinesWanted()[i], api.OK)
		a.Ops = append([]api.Op{}, a.Ops...) // a list that is empty and not nil
		checkAct(t, a, actLinesWanted()[i], api.OK)
	}
	checkAct(t, api.Act{Kind: api.ActFuse}, "fuse 0", api.OK)
	checkAct(t, api.Act{Kind: api.ActEdit}, "edit 0 0 0 0 = =", api.OK)
	checkAct(t, api.Act{Kind: api.ActBatch, Ops: allOps()}, "batch\n"+strings.Join(opLines(), "\n")+"\nend", api.OK)
	for _, kind := range []int{0, 7, -1, 256 + 1, math.MaxInt, math.MinInt} {
		checkAct(t, api.Act{Kind: kind}, "", api.ErrStep)
		checkAct(t, api.Act{Kind: kind, I: 1, Ops: []api.Op{{}}}, "", api.ErrStep)
	}
}

func TestPrintActForeignFields(t *testing.T) {
	edits := []api.Edit{{Before: 1}, {Kind: 1}, {Put: -1}, {From: 1}, {Name: "n"}, {Blob: "b"}}
	for _, a := range allActs() {
		if a.Kind != api.ActFuse {
			b := a
			b.I = -1
			checkAct(t, b, "", api.ErrPrint)
		}
		if a.Kind != api.ActBatch {
			b := a
			b.Ops = []api.Op{{Kind: api.OpStat}}
			checkAct(t, b, "", api.ErrPrint)
			b.Ops = []api.Op{{}}
			checkAct(t, b, "", api.ErrPrint)
		}
		for _, edit := range edits {
			b := a
			b.Edit = edit
			if a.Kind != api.ActEdit {
				checkAct(t, b, "", api.ErrPrint)
			}
		}
	}
	checkAct(t, api.Act{Kind: api.ActBatch, I: 1, Ops: []api.Op{{}}}, "", api.ErrPrint) // ahead of the operation's ErrStep
	long := strings.Repeat("a", lineLimit+1)
	checkAct(t, api.Act{Kind: api.ActEdit, I: 1, Edit: api.Edit{Name: long}}, "", api.ErrPrint)
}

func TestPrintActFirstFault(t *testing.T) {
	good := api.Op{Kind: api.OpStat, Path: "/"}
	step := api.Op{Kind: 11}
	extra := api.Op{Kind: api.OpStat, N: 1}
	long := api.Op{Kind: api.OpStat, Path: strings.Repeat("a", lineLimit)}
	for _, c := range []struct {
		ops  []api.Op
		want api.Errno
	}{
		{[]api.Op{good, step, extra, long}, api.ErrStep},
		{[]api.Op{extra, step, long}, api.ErrPrint},
		{[]api.Op{good, good, long, extra, step}, api.ErrLine},
		{[]api.Op{good, good, extra}, api.ErrPrint},
		{[]api.Op{step}, api.ErrStep},
		{[]api.Op{long}, api.ErrLine},
	} {
		checkAct(t, api.Act{Kind: api.ActBatch, Ops: c.ops}, "", c.want)
	}
}

func TestPrintActLongest(t *testing.T) {
	room := lineLimit - len("edit 0 0 0 0 = =")
	fits := strings.Repeat("a", room)
	checkAct(t, api.Act{Kind: api.ActEdit, Edit: api.Edit{Blob: fits}}, "edit 0 0 0 0 = ="+fits, api.OK)
	checkAct(t, api.Act{Kind: api.ActEdit, Edit: api.Edit{Name: fits}}, "edit 0 0 0 0 ="+fits+" =", api.OK)
	checkAct(t, api.Act{Kind: api.ActEdit, Edit: api.Edit{Blob: fits + "a"}}, "", api.ErrLine)
	checkAct(t, api.Act{Kind: api.ActEdit, Edit: api.Edit{Name: fits + "a"}}, "", api.ErrLine)
	checkAct(t, api.Act{Kind: api.ActEdit, Edit: api.Edit{Name: "n", Blob: fits}}, "", api.ErrLine)
	checkAct(t, api.Act{Kind: api.ActEdit, Edit: api.Edit{From: 10, Blob: fits}}, "", api.ErrLine)
	checkAct(t, api.Act{Kind: api.ActEdit, Edit: api.Edit{Blob: strings.Repeat("\x00", 1<<24)}}, "", api.ErrLine)
	// the limit is a line's: that of a batch stands for each line by itself, and many lines are no fault of an act
	path := strings.Repeat("a", lineLimit-len("stat ="))
	long := api.Op{Kind: api.OpStat, Path: path}
	checkAct(t, api.Act{Kind: api.ActBatch, Ops: []api.Op{long, long}}, "batch\nstat ="+path+"\nstat ="+path+"\nend", api.OK)
	many := slices.Repeat([]api.Op{{Kind: api.OpStat}}, linesLimit+5)
	checkAct(t, api.Act{Kind: api.ActBatch, Ops: many}, "batch\n"+strings.Repeat("stat =\n", linesLimit+5)+"end", api.OK)
}

// P22.2

func TestPrintExamples(t *testing.T) {
	checkPrint(t, api.Play{Ideal: true}, noHead+"acts\n", api.OK)
	checkPrint(t, api.Play{}, "config 0 0 0 0 0 0\nseal real \nacts\n", api.OK)
	checkPrint(t, api.Play{Ideal: true, Tape: strings.Repeat("\xa0", 65)}, noHead+"tape "+strings.Repeat("a0", 64)+"\ntape a0\nacts\n", api.OK)
}

func TestPrintWhole(t *testing.T) {
	p := api.Play{
		Config: api.Config{Slots: 1, Files: -2, Dirs: 3, MaxFile: math.MaxInt, Least: math.MinInt, Page: 6},
		Master: "\x00k\xff", Tape: "\x01\x9f", Acts: allActs(),
	}
	want := "config 1 -2 3 9223372036854775807 -9223372036854775808 6\nseal real 006bff\ntape 019f\nacts\n" + strings.Join(actLinesWanted(), "\n") + "\n"
	checkPrint(t, p, want, api.OK)
}

func TestPrintTape(t *testing.T) {
	for _, size := range []int{0, 1, 2, 63, 64, 65, 127, 128, 129, 1000} {
		bytes, want := make([]byte, size), noHead
		for i := range bytes {
			bytes[i] = byte(i * 7)
		}
		for at := 0; at < size; at += 64 {
			want += fmt.Sprintf("tape %x\n", bytes[at:min(at+64, size)])
		}
		checkPrint(t, api.Play{Ideal: true, Tape: string(bytes)}, want+"acts\n", api.OK)
	}
}

func TestPrintFaults(t *testing.T) {
	tooLong := strings.Repeat("m", (lineLimit-len("seal real "))/2+1)
	wrong := []api.Act{{Kind: api.ActPower}, {Kind: 9}, {Kind: api.ActPower, I: 1}}
	tooMany := strings.Repeat("t", 64*linesLimit)
	checkPrint(t, api.Play{Ideal: true, Master: "m"}, "", api.ErrPrint)
	checkPrint(t, api.Play{Ideal: true, Master: tooLong, Acts: wrong, Tape: tooMany}, "", api.ErrPrint)
	checkPrint(t, api.Play{Master: tooLong}, "", api.ErrLine)
	checkPrint(t, api.Play{Master: tooLong + tooLong + tooLong}, "", api.ErrLine)
	checkPrint(t, api.Play{Master: tooLong, Acts: wrong, Tape: tooMany}, "", api.ErrLine)
	checkPrint(t, api.Play{Acts: wrong, Tape: tooMany}, "", api.ErrStep)
	checkPrint(t, api.Play{Acts: []api.Act{{Kind: api.ActPower, I: 1}, {Kind: 9}}}, "", api.ErrPrint)
	checkPrint(t, api.Play{Acts: []api.Act{{Kind: api.ActBatch, Ops: []api.Op{{}}}, {Kind: api.ActPower, I: 1}}}, "", api.ErrStep)
	long := api.Act{Kind: api.ActEdit, Edit: api.Edit{Blob: strings.Repeat("a", lineLimit)}}
	checkPrint(t, api.Play{Acts: []api.Act{long, {Kind: 9}}}, "", api.ErrLine)
	checkPrint(t, api.Play{Tape: tooMany}, "", api.ErrLines)
	// an act's error comes ahead of too many lines, wherever the act stands
	acts := slices.Repeat([]api.Act{{Kind: api.ActPower}}, 2*linesLimit)
	checkPrint(t, api.Play{Acts: acts}, "", api.ErrLines)
	acts[len(acts)-1].Kind = 0
	checkPrint(t, api.Play{Acts: acts}, "", api.ErrStep)
}

func TestPrintMostLines(t *testing.T) {
	power := []api.Act{{Kind: api.ActPower}}
	for _, c := range []struct {
		tape, acts, ops int // ops: in a batch behind the acts; below 0: no batch
		want            api.Errno
	}{
		{0, linesLimit - 3, -1, api.OK},
		{0, linesLimit - 2, -1, api.ErrLines},
		{1, linesLimit - 4, -1, api.OK},
		{64, linesLimit - 4, -1, api.OK},
		{65, linesLimit - 4, -1, api.ErrLines},
		{1, linesLimit - 3, -1, api.ErrLines},
		{64 * (linesLimit - 3), 0, -1, api.OK},
		{64*(linesLimit-3) + 1, 0, -1, api.ErrLines},
		{64 * (linesLimit - 3), 1, -1, api.ErrLines},
		{0, 0, linesLimit - 5, api.OK},
		{0, 0, linesLimit - 4, api.ErrLines},
		{128, 10, linesLimit - 17, api.OK},
		{129, 10, linesLimit - 17, api.ErrLines},
	} {
		p := api.Play{Ideal: true, Tape: strings.Repeat("t", c.tape), Acts: slices.Repeat(power, c.acts)}
		if c.ops >= 0 {
			p.Acts = append(p.Acts, api.Act{Kind: api.ActBatch, Ops: slices.Repeat([]api.Op{{Kind: api.OpStat}}, c.ops)})
		}
		text, e := Print(p)
		if e != c.want {
			t.Errorf("%v: %d", c, e)
		}
		if e == api.OK && strings.Count(text, "\n") != linesLimit || e != api.OK && text != "" {
			t.Errorf("%v: %d lines", c, strings.Count(text, "\n"))
		}
		if e == api.OK {
			checkParsed(t, text, p)
		}
	}
}

func TestPrintLongestSeal(t *testing.T) {
	master := strings.Repeat("m", (lineLimit-len("seal real "))/2)
	checkPrint(t, api.Play{Master: master}, "config 0 0 0 0 0 0\nseal real "+strings.Repeat("6d", len(master))+"\nacts\n", api.OK)
	checkPrint(t, api.Play{Master: master + "m"}, "", api.ErrLine)
}

// P22.3

func TestParseExamples(t *testing.T) {
	checkParsed(t, "config 1 2 3 4 5 6\nseal ideal\ntape 00ff\n# more\ntape 01\nacts\nformat\nbatch\nend", api.Play{
		Config: api.Config{Slots: 1, Files: 2, Dirs: 3, MaxFile: 4, Least: 5, Page: 6},
		Ideal:  true, Tape: "\x00\xff\x01", Acts: []api.Act{{Kind: api.ActFormat}, {Kind: api.ActBatch}},
	})
	checkParsed(t, idealHead+"batch\nread =/a 0 10\nend", api.Play{
		Config: api.Config{Slots: 1, Files: 2, Dirs: 3, MaxFile: 4, Least: 5, Page: 6},
		Ideal:  true, Acts: []api.Act{{Kind: api.ActBatch, Ops: []api.Op{{Kind: api.OpRead, Path: "/a", N: 10}}}},
	})
}

func TestParseWhole(t *testing.T) {
	want := api.Play{
		Config: api.Config{Slots: -1, Files: 0, Dirs: 10, MaxFile: math.MaxInt, Least: math.MinInt, Page: 6},
		Master: "\x00k\xff", Tape: "\x01\x9f\xab",
		Acts: append(allActs(), api.Act{Kind: api.ActBatch, Ops: allOps()}, api.Act{Kind: api.ActBatch}),
	}
	lines := []string{"config -1 0 10 9223372036854775807 -9223372036854775808 6", "seal real 006bff", "tape 019f", "tape ", "tape ab", "acts"}
	lines = append(lines, strings.Split(strings.Join(actLinesWanted(), "\n"), "\n")...)
	lines = append(lines, "batch")
	lines = append(lines, opLines()...)
	lines = append(lines, "end", "batch", "end")
	text := strings.Join(lines, "\n")
	checkParsed(t, text, want)
	checkParsed(t, text+"\n", want)
	checkParsed(t, text+"\n\n\n# the end", want)
	checkParsed(t, "\n"+strings.ReplaceAll(text, "\n", "\n# a b\n\n#\n"), want)
}

func TestParseHead(t *testing.T) {
	const config = "config 1 2 3 4 5 6\n"
	for _, c := range []struct {
		text string
		line int
		code api.Errno
	}{
		{"", 0, api.ErrText}, {"\n", 0, api.ErrText}, {"\n\n#", 0, api.ErrText}, {"acts", 1, api.ErrText},
		{"seal ideal", 1, api.ErrText}, {"tape 00", 1, api.ErrText}, {"format", 1, api.ErrText}, {" ", 1, api.ErrText},
		{"Config 1 2 3 4 5 6", 1, api.ErrText}, {" config 1 2 3 4 5 6", 1, api.ErrText}, {"\x00", 1, api.ErrText}, {" # no", 1, api.ErrText},
		{"config\t1 2 3 4 5 6", 1, api.ErrText}, {"configs 1 2 3 4 5 6", 1, api.ErrText}, {"\r\n" + config, 1, api.ErrText},
		{"config", 1, api.ErrWords}, {"config ", 1, api.ErrWords}, {"config 1 2 3 4 5", 1, api.ErrWords}, {"config 1 2 3 4 5 6 7", 1, api.ErrWords},
		{"config 1 2 3 4 5 6 ", 1, api.ErrWords}, {"config x 2 3 4 5 6 7", 1, api.ErrWords}, {"#\nconfig 1", 2, api.ErrWords},
		{"config 01 2 3 4 5 6", 1, api.ErrWord}, {"config 1 2 3 4 5 x", 1, api.ErrWord}, {"config  2 3 4 5 6", 1, api.ErrWord},
		{"config 1 2 =3 4 5 6", 1, api.ErrWord}, {"config 1 2 3 4 5 6\r\nseal ideal\nacts", 1, api.ErrWord},
		{config, 0, api.ErrText}, {config + config, 2, api.ErrText}, {config + "acts", 2, api.ErrText}, {config + "tape 00", 2, api.ErrText}, {config + "\nformat", 3, api.ErrText},
		{config + "seal", 2, api.ErrWords}, {config + "seal real 00 ", 2, api.ErrWords}, {config + "seal ideal 0 0", 2, api.ErrWords}, {config + "seal   ", 2, api.ErrWords},
		{config + "seal best", 2, api.ErrWord}, {config + "seal ", 2, api.ErrWord}, {config + "seal ideal 00", 2, api.ErrWord}, {config + "seal ideal ", 2, api.ErrWord},
		{config + "seal real", 2, api.ErrWord}, {config + "seal real 0", 2, api.ErrWord}, {config + "seal real 0g", 2, api.ErrWord}, {config + "seal best 00", 2, api.ErrWord},
		{config + "seal real =6d", 2, api.ErrWord}, {config + "seal  00", 2, api.ErrWord}, {config + "seal Ideal", 2, api.ErrWord}, {config + "seal 00 real", 2, api.ErrWord},
		{config + "seal ideal", 0, api.ErrText}, {config + "seal ideal\nseal ideal", 3, api.ErrText}, {config + "seal ideal\n" + config, 3, api.ErrText}, {config + "seal ideal\nformat", 3, api.ErrText},
		{config + "seal ideal\ntape 00\nseal ideal", 4, api.ErrText}, {config + "seal ideal\ntape 00\n", 0, api.ErrText},
		{config + "seal ideal\ntape", 3, api.ErrWords}, {config + "seal ideal\ntape 00 00", 3, api.ErrWords}, {config + "seal ideal\ntape 00 ", 3, api.ErrWords},
		{config + "seal ideal\ntape 0", 3, api.ErrWord}, {config + "seal ideal\ntape 0G", 3, api.ErrWord}, {config + "seal ideal\ntape 0F", 3, api.ErrWord},
		{config + "seal ideal\ntape 00\ntape 00é", 4, api.ErrWord}, {config + "seal ideal\ntape \xff\xff", 3, api.ErrWord}, {config + "seal ideal\ntape 0x", 3, api.ErrWord},
		{config + "seal ideal\nacts 1", 3, api.ErrWords}, {config + "seal ideal\nacts ", 3, api.ErrWords}, {config + "seal ideal\nacts\nacts", 4, api.ErrStep},
	} {
		checkRefused(t, c.text, c.line, c.code)
	}
}

func TestParseActs(t *testing.T) {
	for _, c := range []struct {
		text string
		line int
		code api.Errno
	}{
		{"stat =/", 4, api.ErrStep}, {"end", 4, api.ErrStep}, {"x", 4, api.ErrStep}, {" ", 4, api.ErrStep}, {" format", 4, api.ErrStep}, {"Format", 4, api.ErrStep},
		{"format\nconfig 1 2 3 4 5 6", 5, api.ErrStep}, {"tape 00", 4, api.ErrStep}, {"seal ideal", 4, api.ErrStep}, {"x 1 2 3", 4, api.ErrStep}, {"formats", 4, api.ErrStep},
		{"batch\nend\nend", 6, api.ErrStep}, {"=", 4, api.ErrStep}, {"format\r", 4, api.ErrStep},
		{"format 1", 4, api.ErrWords}, {"format ", 4, api.ErrWords}, {"recover 1", 4, api.ErrWords}, {"power 1", 4, api.ErrWords}, {"batch 1", 4, api.ErrWords}, {"batch ", 4, api.ErrWords},
		{"fuse", 4, api.ErrWords}, {"fuse 1 2", 4, api.ErrWords}, {"fuse x ", 4, api.ErrWords}, {"fuse 1 ", 4, api.ErrWords},
		{"edit 1 2 3 4 =", 4, api.ErrWords}, {"edit 1 2 3 4 = = =", 4, api.ErrWords}, {"edit", 4, api.ErrWords}, {"edit x x x x", 4, api.ErrWords},
		{"fuse x", 4, api.ErrWord}, {"fuse ", 4, api.ErrWord}, {"fuse =1", 4, api.ErrWord}, {"fuse 1\r", 4, api.ErrWord},
		{"edit x 2 3 4 = =", 4, api.ErrWord}, {"edit 1 x 3 4 = =", 4, api.ErrWord}, {"edit 1 2 x 4 = =", 4, api.ErrWord}, {"edit 1 2 3 x = =", 4, api.ErrWord},
		{"edit 1 2 3 4 n =", 4, api.ErrWord}, {"edit 1 2 3 4 = b", 4, api.ErrWord}, {"edit 1 2 3 4 = ", 4, api.ErrWord}, {"edit 1 2 3 =4 = =", 4, api.ErrWord},
		{"batch", 0, api.ErrText}, {"batch\nstat =/\n", 0, api.ErrText}, {"format\nbatch\n#end\n\n", 0, api.ErrText}, {"batch\nend\nbatch", 0, api.ErrText},
	} {
		checkRefused(t, idealHead+c.text, c.line, c.code)
	}
}

func TestParseBatch(t *testing.T) {
	for _, c := range []struct {
		text string
		code api.Errno
	}{
		{"format", api.ErrStep}, {"batch", api.ErrStep}, {"fuse 1", api.ErrStep}, {"power", api.ErrStep}, {"recover", api.ErrStep}, {"edit 1 2 3 4 = =", api.ErrStep}, {"acts", api.ErrStep},
		{"x =/", api.ErrStep}, {" ", api.ErrStep}, {" stat =/", api.ErrStep}, {"Stat =/", api.ErrStep}, {" end", api.ErrStep}, {"ends", api.ErrStep},
		{"end 1", api.ErrWords}, {"end ", api.ErrWords},
		{"mkdir", api.ErrWords}, {"mkdir =/ ", api.ErrWords}, {"create", api.ErrWords}, {"create = =", api.ErrWords}, {"remove", api.ErrWords}, {"remove = 0", api.ErrWords},
		{"rmdir", api.ErrWords}, {"rmdir x x", api.ErrWords}, {"list", api.ErrWords}, {"list =/ 1", api.ErrWords}, {"stat", api.ErrWords}, {"stat =/a b", api.ErrWords},
		{"read =/a 0", api.ErrWords}, {"read =/a 0 1 2", api.ErrWords}, {"read /a", api.ErrWords}, {"write =/a 0", api.ErrWords}, {"write =/a 0 =d =", api.ErrWords}, {"write =/a =d", api.ErrWords},
		{"cut =/a", api.ErrWords}, {"cut =/a 0 1", api.ErrWords}, {"rename =/a", api.ErrWords}, {"rename =/a =/b =/c", api.ErrWords},
		{"mkdir /", api.ErrWord}, {"create ", api.ErrWord}, {"remove %3d", api.ErrWord}, {"rmdir 1", api.ErrWord}, {"list a=", api.ErrWord}, {"stat ==", api.ErrWord},
		{"read /a 0 10", api.ErrWord}, {"read =/a x 10", api.ErrWord}, {"read =/a 0 x", api.ErrWord}, {"read =/a 0 =10", api.ErrWord},
		{"write =/a 0 =%41", api.ErrWord}, {"write /a 0 =", api.ErrWord}, {"write =/a =0 =", api.ErrWord}, {"write =/a 0 0", api.ErrWord},
		{"cut a 0", api.ErrWord}, {"cut =/a 00", api.ErrWord}, {"rename a =", api.ErrWord}, {"rename = b", api.ErrWord},
	} {
		checkRefused(t, idealHead+"batch\n"+c.text+"\nend", 5, c.code)
		checkRefused(t, idealHead+"power\nbatch\nstat =/\n# so\n"+c.text, 8, c.code)
	}
}

func TestParseNumbers(t *testing.T) {
	for _, n := range []int{0, 1, -1, 9, 10, -10, 100, math.MaxInt, math.MinInt} {
		p := parsed(t, idealHead+fmt.Sprintf("fuse %d", n))
		if p.Acts[0].I != n {
			t.Errorf("fuse %d is %d", n, p.Acts[0].I)
		}
	}
	for _, word := range []string{"", "-", "+1", "-0", "+0", "00", "01", "-01", "--1", "1-", "0x1", "1e3", "1_0", "1.0", "9223372036854775808", "-9223372036854775809",
		"18446744073709551616", "99999999999999999999999999", "a", "=1", "1\t", "\t1", "١", "1\x00", strings.Repeat("9", 1000), strings.Repeat("0", 1000), "٣"} {
		checkRefused(t, idealHead+"fuse "+word, 4, api.ErrWord)
		checkRefused(t, "config 1 2 3 "+word+" 5 6", 1, api.ErrWord)
		checkRefused(t, idealHead+"batch\ncut = "+word, 5, api.ErrWord)
	}
}

func TestParseByteWords(t *testing.T) {
	const plain = "abcdefghijklmnopqrstuvwxyzABCDEFGHIJKLMNOPQRSTUVWXYZ0123456789._-/"
	for c := range 256 {
		raw, escaped := string([]byte{byte(c)}), fmt.Sprintf("%%%02x", c)
		good, bad := escaped, raw
		if strings.Contains(plain, raw) {
			good, bad = raw, escaped
		}
		p := parsed(t, idealHead+"batch\nstat =a"+good+"b"+good+"\nend")
		if got := p.Acts[0].Ops[0].Path; got != "a"+raw+"b"+raw {
			t.Errorf("=a%sb%s is %q", good, good, got)
		}
		if raw == " " {
			checkRefused(t, idealHead+"batch\nstat = \nend", 5, api.ErrWords)
			continue
		}
		if raw == "\n" { // it ends the line
			checkRefused(t, idealHead+"batch\nstat =a\nb", 6, api.ErrStep)
			continue
		}
		checkRefused(t, idealHead+"batch\nstat ="+bad+"\nend", 5, api.ErrWord)
		checkRefused(t, idealHead+"batch\nstat =a"+bad+"a\nend", 5, api.ErrWord)
	}
	for _, word := range []string{"", "a", "/", "%20", "==", "=%", "=%2", "=a%2", "=%%", "=%2%20", "=%zz", "=%2G", "=%FF", "=%fF", "=%2 0", "=%é", "=é", "=\xff", "=a%\xff0", "=%0\xff", "=%0é", "\xff=", "é=", "=%+1", "=%-1", "=%2f", "=%61"} {
		code, line := api.ErrWord, 4
		if strings.Contains(word, " ") {
			code = api.ErrWords
		}
		checkRefused(t, idealHead+"edit 0 0 0 0 = "+word, line, code)
		checkRefused(t, idealHead+"edit 0 0 0 0 "+word+" =", line, code)
	}
}

func TestParseHexWords(t *testing.T) {
	for c := range 256 {
		p := parsed(t, fmt.Sprintf("config 1 2 3 4 5 6\nseal real %02x\ntape %02x\ntape\x20\ntape 00%02x\nacts", c, c, c))
		raw := string([]byte{byte(c)})
		if p.Master != raw || p.Tape != raw+"\x00"+raw || p.Ideal {
			t.Errorf("%02x: %q, %q, %v", c, p.Master, p.Tape, p.Ideal)
		}
		if !strings.Contains("0123456789abcdef \n", raw) {
			checkRefused(t, "config 1 2 3 4 5 6\nseal real 0"+raw, 2, api.ErrWord)
			checkRefused(t, "config 1 2 3 4 5 6\nseal ideal\ntape "+raw+"0", 3, api.ErrWord)
		}
	}
	checkParsed(t, "config 0 0 0 0 0 0\nseal real \nacts", api.Play{})
}

func TestParseLongLines(t *testing.T) {
	long := strings.Repeat("x", lineLimit)
	checkRefused(t, long, 1, api.ErrText)
	checkRefused(t, long+"x", 1, api.ErrLine)
	checkRefused(t, idealHead+long, 4, api.ErrStep)
	checkRefused(t, idealHead+long+"x", 4, api.ErrLine)
	checkRefused(t, idealHead+"batch\n"+long+"x\nend", 5, api.ErrLine)
	checkRefused(t, idealHead+"#"+long, 4, api.ErrLine)
	checkRefused(t, "#"+long+"\n"+idealHead, 1, api.ErrLine)
	checkRefused(t, idealHead+"format 1\n"+long+"x", 4, api.ErrWords)
	checkRefused(t, idealHead+strings.Repeat(" ", lineLimit+1), 4, api.ErrLine)
	checkRefused(t, idealHead+strings.Repeat(" ", lineLimit), 4, api.ErrStep)
	checkRefused(t, idealHead+"fuse"+strings.Repeat(" ", lineLimit-4), 4, api.ErrWords)
	if p := parsed(t, idealHead+"#"+long[1:]+"\n"+"power"); len(p.Acts) != 1 {
		t.Errorf("a long line that says nothing: %v", p)
	}
	path := strings.Repeat("a", lineLimit-len("stat ="))
	if p := parsed(t, idealHead+"batch\nstat ="+path+"\nend\n"); p.Acts[0].Ops[0].Path != path {
		t.Error("the longest line is not read")
	}
	checkRefused(t, idealHead+"batch\nstat =a"+path+"\nend\n", 5, api.ErrLine)
	digits := strings.Repeat("5a", (lineLimit-len("tape "))/2)
	if p := parsed(t, "config 1 2 3 4 5 6\nseal ideal\ntape "+digits+"\ntape "+digits+"\nacts"); p.Tape != strings.Repeat("Z", len(digits)) {
		t.Error("the longest line of a tape is not read")
	}
}

func TestParseManyLines(t *testing.T) {
	most := idealHead + strings.Repeat("power\n", linesLimit-3)
	if p := parsed(t, most); len(p.Acts) != linesLimit-3 {
		t.Errorf("%d acts", len(p.Acts))
	}
	parsed(t, most+strings.Repeat("\n# more\n", 10))
	checkRefused(t, most+"power", linesLimit+1, api.ErrLines)
	checkRefused(t, most+"x", linesLimit+1, api.ErrLines)
	checkRefused(t, most+"fuse", linesLimit+1, api.ErrLines)
	checkRefused(t, "\n#\n"+most+"\n#\npower", linesLimit+5, api.ErrLines)
	checkRefused(t, most+strings.Repeat("x", lineLimit+1), linesLimit+1, api.ErrLine)
	checkRefused(t, most+"#"+strings.Repeat("x", lineLimit), linesLimit+1, api.ErrLine)
	checkRefused(t, strings.Repeat("tape\n", linesLimit+1), 1, api.ErrText)
	batch := idealHead + "batch\n" + strings.Repeat("stat =\n", linesLimit-5)
	if p := parsed(t, batch+"end"); len(p.Acts) != 1 || len(p.Acts[0].Ops) != linesLimit-5 {
		t.Errorf("%d acts", len(p.Acts))
	}
	checkRefused(t, batch+"stat =\nend", linesLimit+1, api.ErrLines)
	checkRefused(t, batch+"#\nend\nx", linesLimit+2, api.ErrLines)
	tapes := "config 1 2 3 4 5 6\nseal ideal\n" + strings.Repeat("tape 00\n", linesLimit-3)
	if p := parsed(t, tapes+"acts"); len(p.Tape) != linesLimit-3 {
		t.Errorf("%d bytes", len(p.Tape))
	}
	checkRefused(t, tapes+"tape 00\nacts", linesLimit+1, api.ErrLines)
	checkRefused(t, tapes+"tape 00\nacts\n", linesLimit+1, api.ErrLines)
	checkRefused(t, strings.Repeat("\n", 3000000)+"x", 3000001, api.ErrText)
	checkRefused(t, strings.Repeat("\n", 3000000), 0, api.ErrText)
}

// model reads a text as the chapter's words say it, by patterns, one behind the other: it shares nothing with the program.
type model struct {
	number, bytes, hex *regexp.Regexp
}

func newModel() model {
	return model{
		number: regexp.MustCompile(`\A(0|-?[1-9][0-9]*)\z`),
		// of the escapes those that stand for no letter, no digit and none of . _ - /
		bytes: regexp.MustCompile(`\A=([a-zA-Z0-9._/-]|%([0189a-f][0-9a-f]|2[0-9abc]|3[a-f]|[46]0|5[bcde]|7[b-f]))*\z`),
		hex:   regexp.MustCompile(`\A([0-9a-f]{2})*\z`),
	}
}

// shapes is what stands behind each first word: n a number, b a byte word, h a hex word.
func (m model) shapes(place string) map[string]string {
	switch place {
	case "config":
		return map[string]string{"config": "nnnnnn"}
	case "tape":
		return map[string]string{"tape": "h", "acts": ""}
	case "acts":
		return map[string]string{"format": "", "recover": "", "power": "", "batch": "", "fuse": "n", "edit": "nnnnbb"}
	}
	return map[string]string{"mkdir": "b", "create": "b", "remove": "b", "rmdir": "b", "list": "b", "stat": "b", "read": "bnn", "write": "bnb", "cut": "bn", "rename": "bb", "end": ""}
}

func (m model) isGood(shape byte, word string) bool {
	switch shape {
	case 'n':
		n, ok := new(big.Int).SetString(word, 10)
		return m.number.MatchString(word) && ok && n.IsInt64()
	case 'b':
		return m.bytes.MatchString(word)
	}
	return m.hex.MatchString(word)
}

func (m model) line(place, line string) (string, api.Errno) {
	words := strings.Split(line, " ")
	if place == "seal" {
		switch {
		case words[0] != "seal":
			return "", api.ErrText
		case len(words) != 2 && len(words) != 3:
			return "", api.ErrWords
		case line == "seal ideal" || strings.HasPrefix(line, "seal real ") && m.isGood('h', words[2]):
			return "tape", api.OK
		}
		return "", api.ErrWord
	}
	shape, ok := m.shapes(place)[words[0]]
	switch {
	case !ok && (place == "acts" || place == "batch"):
		return "", api.ErrStep
	case !ok:
		return "", api.ErrText
	case len(words) != len(shape)+1:
		return "", api.ErrWords
	}
	for i := range len(shape) {
		if !m.isGood(shape[i], words[i+1]) {
			return "", api.ErrWord
		}
	}
	switch words[0] {
	case "config":
		return "seal", api.OK
	case "acts", "end":
		return "acts", api.OK
	case "batch":
		return "batch", api.OK
	}
	return place, api.OK
}

// fault is the first one of a text whose lines are neither too long nor too many.
func (m model) fault(text string) LineError {
	lines := strings.Split(text, "\n")
	if lines[len(lines)-1] == "" {
		lines = lines[:len(lines)-1]
	}
	place := "config"
	for i, line := range lines {
		if line == "" || strings.HasPrefix(line, "#") {
			continue
		}
		next, e := m.line(place, line)
		if e != api.OK {
			return LineError{i + 1, e}
		}
		place = next
	}
	if place != "acts" {
		return LineError{0, api.ErrText}
	}
	return LineError{}
}

// heard is the lines that say something, with all tapes as one.
func heard(text string) []string {
	var lines []string
	tape := ""
	for _, line := range strings.Split(text, "\n") {
		switch {
		case line == "" || line[0] == '#':
			continue
		case strings.HasPrefix(line, "tape ") && len(lines) == 2:
			tape += line[len("tape "):]
			continue
		case line == "acts" && len(lines) == 2:
			lines = append(lines, tape)
		}
		lines = append(lines, line)
	}
	return lines
}

func someText(r *rand.Rand, most int) string {
	const likely = "ab/._-Z09 =%\n#\x00\xff\xc3\xa9"
	b := make([]byte, r.Intn(most+1))
	for i := range b {
		b[i] = byte(r.Intn(256))
		if r.Intn(2) == 0 {
			b[i] = likely[r.Intn(len(likely))]
		}
	}
	return string(b)
}

func someInt(r *rand.Rand) int {
	list := []int{0, 1, -1, 10, r.Intn(1000), -r.Intn(1000), math.MaxInt, math.MinInt, int(r.Uint64())}
	return list[r.Intn(len(list))]
}

func someOp(r *rand.Rand) api.Op {
	op := allOps()[r.Intn(10)]
	op.Path = someText(r, 8)
	if op.Kind == api.OpRename {
		op.To = someText(r, 8)
	}
	if op.Kind == api.OpRead || op.Kind == api.OpWrite {
		op.At = someInt(r)
	}
	if op.Kind == api.OpRead || op.Kind == api.OpCut {
		op.N = someInt(r)
	}
	if op.Kind == api.OpWrite {
		op.Data = someText(r, 40)
	}
	return op
}

func someAct(r *rand.Rand) api.Act {
	a := api.Act{Kind: 1 + r.Intn(6)}
	switch a.Kind {
	case api.ActBatch:
		for range r.Intn(5) {
			a.Ops = append(a.Ops, someOp(r))
		}
	case api.ActFuse:
		a.I = someInt(r)
	case api.ActEdit:
		a.Edit = api.Edit{Before: someInt(r), Kind: someInt(r), Put: someInt(r), From: someInt(r), Name: someText(r, 8), Blob: someText(r, 20)}
	}
	return a
}

func somePlay(r *rand.Rand) api.Play {
	p := api.Play{Ideal: r.Intn(2) == 0, Tape: someText(r, 200)}
	p.Config = api.Config{Slots: someInt(r), Files: someInt(r), Dirs: someInt(r), MaxFile: someInt(r), Least: someInt(r), Page: someInt(r)}
	if !p.Ideal {
		p.Master = someText(r, 32)
	}
	for range r.Intn(6) {
		p.Acts = append(p.Acts, someAct(r))
	}
	return p
}

// P22.4

func TestThereAndBack(t *testing.T) {
	r, m := rand.New(rand.NewSource(22)), newModel()
	for range 3000 {
		p := somePlay(r)
		text, e := Print(p)
		if e != api.OK {
			t.Fatalf("Print(%v): %d", p, e)
		}
		if f := m.fault(text); f != (LineError{}) {
			t.Fatalf("Print(%v) = %q, of which the line %d is %d", p, text, f.Line, f.Code)
		}
		checkParsed(t, text, p)
		if again, e := Print(parsed(t, text)); again != text || e != api.OK {
			t.Fatalf("Print of what Parse answers of %q is %q, %d", text, again, e)
		}
	}
}

func TestOpsAndActsAreParts(t *testing.T) {
	r := rand.New(rand.NewSource(23))
	for range 3000 {
		op, a := someOp(r), someAct(r)
		line, e := PrintOp(op)
		lines, f := PrintAct(a)
		if e != api.OK || f != api.OK {
			t.Fatalf("%v: %d, %v: %d", op, e, a, f)
		}
		want := api.Play{Config: api.Config{Slots: 1, Files: 2, Dirs: 3, MaxFile: 4, Least: 5, Page: 6}, Ideal: true}
		want.Acts = []api.Act{a, {Kind: api.ActBatch, Ops: []api.Op{op, op}}, a}
		checkParsed(t, idealHead+lines+"\nbatch\n"+line+"\n"+line+"\nend\n"+lines, want)
	}
}

// noisy is a text with lines that say nothing, and a tape that is cut elsewhere.
func noisy(r *rand.Rand, text string) string {
	var out []string
	for i, line := range strings.Split(strings.TrimSuffix(text, "\n"), "\n") {
		for r.Intn(3) == 0 {
			out = append(out, []string{"", "#", "# no", "#acts"}[r.Intn(4)])
		}
		if digits, ok := strings.CutPrefix(line, "tape "); ok && i >= 2 {
			at := 2 * r.Intn(len(digits)/2+1)
			out = append(out, "tape "+digits[:at])
			line = "tape " + digits[at:]
		}
		out = append(out, line)
	}
	return strings.Join(out, "\n")
}

func TestSameLines(t *testing.T) {
	r := rand.New(rand.NewSource(24))
	for range 2000 {
		p := somePlay(r)
		text, _ := Print(p)
		text = noisy(r, text)
		checkParsed(t, text, p)
		again, e := Print(parsed(t, text))
		if e != api.OK || !slices.Equal(heard(again), heard(text)) {
			t.Fatalf("of %q Print writes %q, %d", text, again, e)
		}
	}
}

// TestParseHeldAgainstModel changes good texts a little, so that most faults are near to what is good.
func TestParseHeldAgainstModel(t *testing.T) {
	r, m := rand.New(rand.NewSource(25)), newModel()
	pieces := []string{" ", "\n", "=", "0", "-", "%", "%41", "%20", "#", "\x00", "\xff", "é", "batch", "\nend\n", "\nacts\n", "stat =/", "fuse 1", "01", "a", "F", "/"}
	refused := 0
	for range 20000 {
		text, _ := Print(somePlay(r))
		for range 1 + r.Intn(2) {
			from := r.Intn(len(text) + 1)
			to := from + r.Intn(min(3, len(text)-from)+1)
			text = text[:from] + pieces[r.Intn(len(pieces))] + text[to:]
		}
		want := m.fault(text)
		if want != (LineError{}) {
			checkRefused(t, text, want.Line, want.Code)
			refused++
			continue
		}
		again, e := Print(parsed(t, text))
		if e != api.OK || !slices.Equal(heard(again), heard(text)) {
			t.Fatalf("of %q Print writes %q, %d", text, again, e)
		}
	}
	if refused < 5000 || refused > 19900 {
		t.Errorf("%d texts were refused: the test asks too little", refused)
	}
}

// TestPieces puts lines of all sorts behind one another, in any order.
func TestPieces(t *testing.T) {
	r, m := rand.New(rand.NewSource(26)), newModel()
	lines := append([]string{"config 1 2 3 4 5 6", "seal ideal", "seal real 00", "tape 00", "acts", "end", "batch", "", "#", "x", " "}, actLinesWanted()...)
	lines = append(lines, opLines()...)
	for range 20000 {
		text := ""
		if r.Intn(4) > 0 {
			text = idealHead
		}
		for range r.Intn(6) {
			text += lines[r.Intn(len(lines))] + "\n"
		}
		if want := m.fault(text); want != (LineError{}) {
			checkRefused(t, text, want.Line, want.Code)
		} else {
			parsed(t, text)
		}
	}
}

func TestLongTapeLines(t *testing.T) {
	digits := strings.Repeat("0f", 1000)
	again, e := Print(parsed(t, "config 0 0 0 0 0 0\nseal ideal\ntape "+digits+"\nacts"))
	want := noHead + strings.Repeat("tape "+strings.Repeat("0f", 64)+"\n", 15) + "tape " + strings.Repeat("0f", 40) + "\nacts\n"
	if again != want || e != api.OK {
		t.Errorf("Print = %.100q, %d", again, e)
	}
	// a tape that Parse takes may be too long for Print
	line := "tape " + strings.Repeat("0f", 130000) + "\n"
	if _, e := Print(parsed(t, "config 0 0 0 0 0 0\nseal ideal\n"+strings.Repeat(line, 10)+"acts")); e != api.ErrLines {
		t.Errorf("Print of a tape of 1300000 bytes: %d", e)
	}
}

// P22.5

func TestLineError(t *testing.T) {
	if Refused == nil || Refused != Refused || Refused.Error() == "" {
		t.Error("Refused is nil, or cannot be compared")
	}
	for want, e := range map[string]*LineError{
		"line 3: code 224": {3, api.ErrWord},
		"line 0: code 220": {0, api.ErrText},
		"line -1: code -5": {-1, -5},
	} {
		if e.Error() != want || e.Unwrap() != Refused {
			t.Errorf("%v: %q, %v", *e, e.Error(), e.Unwrap())
		}
	}
	var none *LineError
	if none.Error() != "" || none.Unwrap() != Refused {
		t.Errorf("of a nil one: %q, %v", none.Error(), none.Unwrap())
	}
	_, err := Parse(idealHead)
	if err != nil {
		t.Errorf("a play with the error %v", err)
	}
	_, err = Parse("")
	if !errors.Is(err, Refused) || errors.Unwrap(err) != Refused {
		t.Errorf("%v does not wrap Refused", err)
	}
	_, other := Parse("")
	if err == other {
		t.Error("two refusals share one error")
	}
}

// P22.6

func TestTell(t *testing.T) {
	for _, c := range []struct {
		a    api.Answer
		want string
	}{
		{api.Answer{Results: []api.Result{{N: 2, Data: "a "}, {Names: []string{"x", ""}}}}, "code 0\nresult 0 2 0 0 =a%20\nresult 0 0 0 0 = =x =\n"},
		{api.Answer{Code: 170}, "code 170\n"},
		{api.Answer{}, "code 0\n"},
		{api.Answer{Results: []api.Result{}}, "code 0\n"},
		{api.Answer{Code: -7, Results: []api.Result{{}}}, "code -7\nresult 0 0 0 0 =\n"},
		{api.Answer{Code: 1, Results: []api.Result{{Code: 2, N: 3, Kind: 4, Size: 5, Data: "\n\xff", Names: []string{" ", "é"}}}}, "code 1\nresult 2 3 4 5 =%0a%ff =%20 =%c3%a9\n"},
		{api.Answer{Code: math.MaxInt, Results: []api.Result{{Code: math.MinInt, N: math.MinInt, Kind: -1, Size: math.MaxInt}}}, "code 9223372036854775807\nresult -9223372036854775808 -9223372036854775808 -1 9223372036854775807 =\n"},
	} {
		if text := Tell(c.a); text != c.want {
			t.Errorf("Tell(%v) = %q, want %q", c.a, text, c.want)
		}
	}
	// neither a line nor the lines have a limit here
	long := strings.Repeat("a", lineLimit+1)
	if text := Tell(api.Answer{Results: []api.Result{{Data: long, Names: []string{long}}}}); text != "code 0\nresult 0 0 0 0 ="+long+" ="+long+"\n" {
		t.Error("a long result is not told whole")
	}
	if text := Tell(api.Answer{Results: make([]api.Result, linesLimit+1)}); text != "code 0\n"+strings.Repeat("result 0 0 0 0 =\n", linesLimit+1) {
		t.Error("many results are not told whole")
	}
}

// P22.7

func TestNothingPanics(t *testing.T) {
	r := rand.New(rand.NewSource(27))
	for range 20000 {
		text := someText(r, 60)
		Parse(text)
		Parse(idealHead + text)
		Parse(idealHead + "batch\n" + text)
		op := api.Op{Kind: r.Intn(14) - 1, Path: someText(r, 3), To: someText(r, 1), At: someInt(r), N: someInt(r), Data: someText(r, 1)}
		PrintOp(op)
		a := api.Act{Kind: r.Intn(9) - 1, I: r.Intn(2), Ops: []api.Op{op}}
		PrintAct(a)
		Print(api.Play{Ideal: r.Intn(2) == 0, Master: someText(r, 1), Acts: []api.Act{a}})
	}
}

func TestNothingHandedInIsChanged(t *testing.T) {
	room := append(allOps(), api.Op{Kind: 99, Path: "spare"})
	ops := room[:9]
	acts := append(allActs(), api.Act{Kind: api.ActBatch, Ops: ops}, api.Act{Kind: 98, I: 98})
	names := []string{"x", "y", "spare"}
	results := []api.Result{{Names: names[:2], Data: "d"}, {Code: 97}}
	p := api.Play{Master: "m", Tape: "t", Acts: acts[:7]}
	Print(p)
	PrintAct(p.Acts[6])
	PrintAct(api.Act{Kind: api.ActFuse, Ops: ops}) // refused
	Tell(api.Answer{Results: results[:1]})
	if !slices.Equal(room, append(allOps(), api.Op{Kind: 99, Path: "spare"})) {
		t.Errorf("the operations are %v", room)
	}
	if !reflect.DeepEqual(acts, append(allActs(), api.Act{Kind: api.ActBatch, Ops: ops}, api.Act{Kind: 98, I: 98})) {
		t.Errorf("the acts are %v", acts)
	}
	if !slices.Equal(names, []string{"x", "y", "spare"}) || results[1].Code != 97 || !slices.Equal(results[0].Names, names[:2]) {
		t.Errorf("the results are %v, the names %v", results, names)
	}
}

func TestAnswersShareNothing(t *testing.T) {
	text := idealHead + "batch\nstat =/a\nstat =/b\nend\nbatch\nstat =/c\nend\nbatch\nend\n"
	p, q := parsed(t, text), parsed(t, text)
	for i := range p.Acts {
		p.Acts[i].Ops = append(p.Acts[i].Ops, api.Op{Kind: 50 + i}, api.Op{Kind: 60 + i}, api.Op{Kind: 70 + i})
	}
	for i := range p.Acts {
		n := len(p.Acts[i].Ops)
		if got := p.Acts[i].Ops[n-3:]; got[0].Kind != 50+i || got[1].Kind != 60+i || got[2].Kind != 70+i {
			t.Errorf("the lists of two batches share memory: %v", got)
		}
		clear(p.Acts[i].Ops)
	}
	clear(p.Acts[:cap(p.Acts)])
	if again := parsed(t, text); !samePlay(again, q) {
		t.Errorf("two answers share memory: %v, %v", again, q)
	}
	if len(q.Acts) != 3 || len(q.Acts[0].Ops) != 2 || q.Acts[0].Ops[1].Path != "/b" || q.Acts[1].Ops[0].Path != "/c" {
		t.Errorf("two answers share memory: %v", q)
	}
}
