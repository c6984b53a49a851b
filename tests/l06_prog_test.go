package tests

import (
	"bytes"
	"fmt"
	"math"
	"math/rand"
	"regexp"
	"slices"
	"strconv"
	"strings"
	"testing"
	"unsafe"

	"loop.example/g00752/impl"
)

// stmtKinds are the kinds of statements, told in order.
var stmtKinds = []int64{impl.StSet, impl.StSecret, impl.StSay, impl.StWait, impl.StLog, impl.StIf, impl.StGoto, impl.StEnd}

// fieldsOf are the fields that a statement of a kind has.
var fieldsOf = map[int64]string{
	impl.StSet:    "Name Parts",
	impl.StSecret: "Name Text",
	impl.StSay:    "N Parts",
	impl.StWait:   "N Text Name To",
	impl.StLog:    "Parts",
	impl.StIf:     "Name Text To",
	impl.StGoto:   "To",
	impl.StEnd:    "N",
}

// noKinds are numbers that are no kinds of statements, nor of parts.
var noKinds = []int64{math.MinInt64, -(1 << 32), -8, -3, -1, 0, 9, 10, 256, 257, 258, 264, 1 << 32, 1<<32 + 1, 1<<32 + 8, math.MaxInt64}

// noPlaces are numbers that are no places of a program, nor behind its end.
var noPlaces = []int64{math.MinInt64, -(1 << 32), -40, -2, -1, 41, 42, 256, 296, 1 << 32, 1<<32 + 40, math.MaxInt64}

// noExits are numbers with which no program ends.
var noExits = []int64{math.MinInt64, -(1 << 32), -99, -2, -1, 100, 101, 255, 256, 355, 1 << 32, 1<<32 + 99, math.MaxInt64}

// noCuts are numbers at which no Lab is cut.
var noCuts = []int64{math.MinInt64, -(1 << 32), -200, -2, -1, 201, 202, 256, 456, 1 << 32, 1<<32 + 200, math.MaxInt64}

// fromTo is all bytes from one up to another, without the quote.
func fromTo(first byte, last byte) string {
	var b []byte
	for c := int(first); c <= int(last); c++ {
		if c != '"' {
			b = append(b, byte(c))
		}
	}
	return string(b)
}

// text, variable and cut are parts.
func text(t string) impl.Part {
	return impl.Part{Kind: impl.PtText, Text: t}
}

func variable(name string) impl.Part {
	return impl.Part{Kind: impl.PtVar, Text: name}
}

func cut(name string, from int64, to int64) impl.Part {
	return impl.Part{Kind: impl.PtCut, Text: name, From: from, To: to}
}

// rightPart is a right part, and its text.
type rightPart struct {
	part impl.Part
	text string
}

// rightParts are right parts with their texts.
func rightParts() []rightPart {
	all := fromTo(' ', '~')
	l := []rightPart{
		{text(""), `""`},
		{text(" "), `" "`},
		{text("  a  b  "), `"  a  b  "`},
		{text("$q"), `"$q"`},
		{text("$q[0:1]"), `"$q[0:1]"`},
		{text("."), `"."`},
		{text("log"), `"log"`},
		{text(`\`), `"\"`},
		{text(`\n`), `"\n"`},
		{text("~"), `"~"`},
		{text(strings.Repeat(" ", 30)), `"` + strings.Repeat(" ", 30) + `"`},
		{variable("q"), "$q"},
		{variable("set"), "$set"},
		{variable("twelveletter"), "$twelveletter"},
		{cut("q", 0, 0), "$q[0:0]"},
		{cut("q", 0, 200), "$q[0:200]"},
		{cut("q", 200, 200), "$q[200:200]"},
		{cut("zz", 9, 10), "$zz[9:10]"},
		{cut("twelveletter", 199, 200), "$twelveletter[199:200]"},
	}
	for len(all) > 0 {
		n := min(30, len(all))
		l = append(l, rightPart{text(all[:n]), `"` + all[:n] + `"`})
		all = all[n:]
	}
	return l
}

// wrongParts are parts that are not right, by what is wrong with them.
func wrongParts() map[string]impl.Part {
	l := map[string]impl.Part{
		"zero":                     {},
		"a text of 31 bytes":       text(strings.Repeat("a", 31)),
		"a text of 31 blanks":      text(strings.Repeat(" ", 31)),
		"a text of 256 bytes":      text(strings.Repeat("a", 256)),
		"a text of 286 bytes":      text(strings.Repeat("a", 286)),
		"a text of MaxBytes":       text(strings.Repeat("a", impl.MaxBytes)),
		"a text of more":           text(strings.Repeat("a", impl.MaxBytes+1)),
		"a text of a far byte":     text(strings.Repeat("a", 29) + "\x7f"),
		"a text with From":         {Kind: impl.PtText, Text: "q", From: 1},
		"a text with To":           {Kind: impl.PtText, Text: "q", To: 1},
		"a text with both":         {Kind: impl.PtText, Text: "q", From: 1, To: 2},
		"a text with From below 0": {Kind: impl.PtText, From: -1},
		"a text with a far To":     {Kind: impl.PtText, To: 1 << 32},
		"a variable with From":     {Kind: impl.PtVar, Text: "q", From: 1},
		"a variable with To":       {Kind: impl.PtVar, Text: "q", To: 1},
		"a variable with both":     {Kind: impl.PtVar, Text: "q", From: 1, To: 2},
		"a variable below 0":       {Kind: impl.PtVar, Text: "q", To: math.MinInt64},
		"a variable with its sign": variable("$q"),
		"a cut with its places":    cut("q[0:1]", 0, 1),
		"a cut from above to":      cut("q", 1, 0),
		"a cut from far above to":  cut("q", 200, 199),
	}
	for c := range 256 {
		if c < 32 || c > 126 || c == '"' {
			for _, t := range []string{"", "a", strings.Repeat("~", 29)} {
				l[fmt.Sprintf("a text of the byte %d behind %d", c, len(t))] = text(t + string([]byte{byte(c)}))
				l[fmt.Sprintf("a text of the byte %d ahead of %d", c, len(t))] = text(string([]byte{byte(c)}) + t)
			}
		}
	}
	for i, name := range noWords() {
		l["variable "+strconv.Itoa(i)] = variable(name)
		l["cut "+strconv.Itoa(i)] = cut(name, 0, 1)
	}
	for _, n := range noCuts {
		at := strconv.FormatInt(n, 10)
		l["a cut from "+at] = cut("q", n, 200)
		l["a cut to "+at] = cut("q", 0, n)
		l["a cut from and to "+at] = cut("q", n, n)
	}
	for _, kind := range noKinds {
		at := strconv.FormatInt(kind, 10)
		l["kind "+at] = impl.Part{Kind: kind, Text: "q"}
		l["kind of places "+at] = impl.Part{Kind: kind, Text: "q", From: 1, To: 2}
	}
	for _, kind := range []int64{4, 5, 6, 7, 8} {
		l["kind of no part "+strconv.FormatInt(kind, 10)] = impl.Part{Kind: kind, Text: "q"}
	}
	return l
}

// rightStmt is a right statement, and its text.
type rightStmt struct {
	stmt impl.Stmt
	text string
}

// fewStmts are some right statements of each kind with their texts, at the limits, too.
func fewStmts() []rightStmt {
	glob, most, name := fromTo('#', '~'), strings.Repeat("~", 30), "twelveletter"
	return []rightStmt{
		{impl.Stmt{Kind: impl.StSet, Name: "p"}, `set p`},
		{impl.Stmt{Kind: impl.StSet, Name: name, Parts: []impl.Part{text("a b"), variable("q"), cut("r", 0, 3)}}, `set twelveletter "a b" $q $r[0:3]`},
		{impl.Stmt{Kind: impl.StSecret, Name: "p", Text: "ann"}, `secret p ann`},
		{impl.Stmt{Kind: impl.StSecret, Name: name, Text: name}, `secret twelveletter twelveletter`},
		{impl.Stmt{Kind: impl.StSecret, Name: "secret", Text: "set"}, `secret secret set`},
		{impl.Stmt{Kind: impl.StSay}, `say 0`},
		{impl.Stmt{Kind: impl.StSay, N: 1, Parts: []impl.Part{variable("p")}}, `say 1 $p`},
		{impl.Stmt{Kind: impl.StSay, N: 2, Parts: []impl.Part{text("")}}, `say 2 ""`},
		{impl.Stmt{Kind: impl.StWait, Text: "*", Name: "q"}, `wait 0 * q 0`},
		{impl.Stmt{Kind: impl.StWait, N: 1, Text: "*:", Name: "q", To: 4}, `wait 1 *: q 4`},
		{impl.Stmt{Kind: impl.StWait, N: 2, Text: glob[:40], Name: name, To: 40}, `wait 2 ` + glob[:40] + ` twelveletter 40`},
		{impl.Stmt{Kind: impl.StWait, Text: `\\`, Name: "q", To: 9}, `wait 0 \\ q 9`},
		{impl.Stmt{Kind: impl.StWait, Text: `.`, Name: "q", To: 10}, `wait 0 . q 10`},
		{impl.Stmt{Kind: impl.StWait, Text: `!$q[0:1]~`, Name: "wait", To: 39}, `wait 0 !$q[0:1]~ wait 39`},
		{impl.Stmt{Kind: impl.StLog}, `log`},
		{impl.Stmt{Kind: impl.StLog, Parts: []impl.Part{text(" $q "), text(" "), variable("log")}}, `log " $q " " " $log`},
		{impl.Stmt{Kind: impl.StIf, Name: "q"}, `if q . 0`},
		{impl.Stmt{Kind: impl.StIf, Name: "q", Text: "..", To: 1}, `if q .. 1`},
		{impl.Stmt{Kind: impl.StIf, Name: "q", Text: ".a", To: 1}, `if q .a 1`},
		{impl.Stmt{Kind: impl.StIf, Name: "q", Text: "!", To: 39}, `if q ! 39`},
		{impl.Stmt{Kind: impl.StIf, Name: name, Text: most, To: 40}, `if twelveletter ` + most + ` 40`},
		{impl.Stmt{Kind: impl.StIf, Name: "if", Text: glob[62:], To: 7}, `if if ` + glob[62:] + ` 7`},
		{impl.Stmt{Kind: impl.StIf, Name: "q", Text: `*\`, To: 7}, `if q *\ 7`},
		{impl.Stmt{Kind: impl.StGoto}, `goto 0`},
		{impl.Stmt{Kind: impl.StGoto, To: 9}, `goto 9`},
		{impl.Stmt{Kind: impl.StGoto, To: 10}, `goto 10`},
		{impl.Stmt{Kind: impl.StGoto, To: 40}, `goto 40`},
		{impl.Stmt{Kind: impl.StEnd}, `end 0`},
		{impl.Stmt{Kind: impl.StEnd, N: 7}, `end 7`},
		{impl.Stmt{Kind: impl.StEnd, N: 10}, `end 10`},
		{impl.Stmt{Kind: impl.StEnd, N: 99}, `end 99`},
	}
}

// rightStmts are these, and statements of all the right parts, alone and six of them.
func rightStmts() []rightStmt {
	l, some := fewStmts(), rightParts()
	for i, p := range some {
		l = append(l, rightStmt{impl.Stmt{Kind: impl.StLog, Parts: []impl.Part{p.part}}, "log " + p.text})
		six, texts := []impl.Part{}, ""
		for j := range 6 {
			next := some[(i+j*7)%len(some)]
			six, texts = append(six, next.part), texts+" "+next.text
		}
		l = append(l,
			rightStmt{impl.Stmt{Kind: impl.StSet, Name: "p", Parts: six}, "set p" + texts},
			rightStmt{impl.Stmt{Kind: impl.StSay, N: 2, Parts: six}, "say 2" + texts},
			rightStmt{impl.Stmt{Kind: impl.StLog, Parts: six}, "log" + texts})
	}
	return l
}

// stmtCopy is a statement of its own memory.
func stmtCopy(s impl.Stmt) impl.Stmt {
	s.Name, s.Text, s.Parts = strings.Clone(s.Name), strings.Clone(s.Text), slices.Clone(s.Parts)
	for i := range s.Parts {
		s.Parts[i].Text = strings.Clone(s.Parts[i].Text)
	}
	return s
}

// stmtBut is a statement with something else done to it.
func stmtBut(s impl.Stmt, do func(s *impl.Stmt)) impl.Stmt {
	s = stmtCopy(s)
	do(&s)
	return s
}

// stmtsAlike tells whether two statements are alike; no parts and none are the same.
func stmtsAlike(a impl.Stmt, b impl.Stmt) bool {
	return a.Kind == b.Kind && a.Name == b.Name && a.Text == b.Text && a.N == b.N && a.To == b.To && slices.Equal(a.Parts, b.Parts)
}

// otherwise are statements that differ from one in a field alone, by what differs; the field is wrong then.
func otherwise(s impl.Stmt) map[string]impl.Stmt {
	l := map[string]impl.Stmt{}
	add := func(what string, do func(s *impl.Stmt)) {
		l[fmt.Sprintf("%+.60v, %s", s, what)] = stmtBut(s, do)
	}
	has := strings.Fields(fieldsOf[s.Kind])
	number := func(field string, n int64) {
		add(field+" "+strconv.FormatInt(n, 10), func(s *impl.Stmt) {
			if field == "N" {
				s.N = n
			} else {
				s.To = n
			}
		})
	}
	for _, field := range []string{"N", "To"} {
		if !slices.Contains(has, field) {
			for _, n := range []int64{math.MinInt64, -1, 1, 2, 40, 99, 1 << 32, math.MaxInt64} {
				number(field, n)
			}
		}
	}
	if slices.Contains(has, "To") {
		for _, n := range noPlaces {
			number("To", n)
		}
	}
	if slices.Contains(has, "N") && s.Kind == impl.StEnd {
		for _, n := range noExits {
			number("N", n)
		}
	} else if slices.Contains(has, "N") {
		for _, n := range noSeats {
			number("N", n)
		}
	}
	names := []string{"q", " ", "twelveletter", strings.Repeat("a", impl.MaxBytes+1)}
	if slices.Contains(has, "Name") {
		names = noWords()
	}
	for i, name := range names {
		add("Name "+strconv.Itoa(i), func(s *impl.Stmt) { s.Name = name })
	}
	for i, t := range wrongTexts(s.Kind) {
		add("Text "+strconv.Itoa(i), func(s *impl.Stmt) { s.Text = t })
	}
	for what, parts := range wrongLists(slices.Contains(has, "Parts")) {
		add("Parts: "+what, func(s *impl.Stmt) { s.Parts = parts })
	}
	return l
}

// wrongTexts are texts that no right statement of a kind has.
func wrongTexts(kind int64) []string {
	var l []string
	some := []string{"", "a", "*", strings.Repeat("a", 28)}
	switch kind {
	case impl.StSecret:
		return noWords()
	case impl.StWait:
		l = wrongGlobs()
	case impl.StIf:
		l = []string{".", strings.Repeat("a", 31), strings.Repeat(".", 31), strings.Repeat("a", 256), strings.Repeat("a", 286), strings.Repeat("a", impl.MaxBytes+1)}
	default:
		return []string{" ", "a", ".", "*", strings.Repeat("a", impl.MaxBytes+1)}
	}
	for c := range 256 {
		if c < 33 || c > 126 || c == '"' {
			for _, t := range some {
				l = append(l, t+string([]byte{byte(c)}), string([]byte{byte(c)})+t, `a\`+string([]byte{byte(c)}))
			}
		}
	}
	return l
}

// wrongLists are lists of parts that are not those of a statement, of a kind that has some or has none.
func wrongLists(some bool) map[string][]impl.Part {
	l := map[string][]impl.Part{}
	for _, n := range []int{7, 8, 256, 262, impl.MaxList, impl.MaxList + 1, 1 << 16} {
		l["many "+strconv.Itoa(n)] = slices.Repeat([]impl.Part{text("a")}, n)
		l["many variables "+strconv.Itoa(n)] = slices.Repeat([]impl.Part{variable("a")}, n)
	}
	if !some {
		l["one"] = []impl.Part{text("")}
		l["six"] = slices.Repeat([]impl.Part{variable("a")}, 6)
		l["the zero one"] = []impl.Part{{}}
		return l
	}
	for what, p := range wrongParts() {
		l["just "+what] = []impl.Part{p}
		l["last "+what] = append(slices.Repeat([]impl.Part{variable("a")}, 5), p)
		l["first "+what] = append([]impl.Part{p}, text("a"))
	}
	return l
}

// partIsRight tells, without asking the program, whether a part is right.
func partIsRight(p impl.Part) bool {
	switch p.Kind {
	case 1:
		return onlyOf(p.Text, fromTo(32, 126)) && len(p.Text) <= 30 && p.From == 0 && p.To == 0
	case 2:
		return wordIsRight(p.Text) && p.From == 0 && p.To == 0
	case 3:
		return wordIsRight(p.Text) && p.From >= 0 && p.To <= 200 && p.From <= p.To
	}
	return false
}

// stmtIsRight tells, without asking the program, whether a statement is right.
func stmtIsRight(s impl.Stmt) bool {
	has := strings.Fields(fieldsOf[s.Kind])
	zero := map[string]bool{"Name": s.Name == "", "Text": s.Text == "", "N": s.N == 0, "To": s.To == 0, "Parts": len(s.Parts) == 0}
	right := map[string]bool{"Name": wordIsRight(s.Name), "To": s.To >= 0 && s.To <= 40}
	right["Parts"] = len(s.Parts) <= 6 && !slices.ContainsFunc(s.Parts, func(p impl.Part) bool { return !partIsRight(p) })
	right["N"] = s.N >= 0 && (s.N <= 2 || s.Kind == 8 && s.N <= 99)
	switch s.Kind {
	case 2:
		right["Text"] = wordIsRight(s.Text)
	case 4:
		right["Text"] = globIsRight(s.Text) && onlyOf(s.Text, fromTo(33, 126))
	case 6:
		right["Text"] = onlyOf(s.Text, fromTo(33, 126)) && len(s.Text) <= 30 && s.Text != "."
	}
	for field := range zero {
		if slices.Contains(has, field) && !right[field] || !slices.Contains(has, field) && !zero[field] {
			return false
		}
	}
	return len(has) > 0
}

// wordIsRight tells, without asking the program, whether a text is a word.
func wordIsRight(t string) bool {
	return len(t) >= 1 && len(t) <= 12 && onlyOf(t, alphabet)
}

// onlyOf tells whether all bytes of a text are some of those.
func onlyOf(t string, some string) bool {
	for i := range len(t) {
		if strings.IndexByte(some, t[i]) < 0 {
			return false
		}
	}
	return true
}

const (
	wordIs = `[a-z]{1,12}`
	partIs = `(?: "[ !#-~]{0,30}"| \$[a-z]{1,12}(?:\[(?:0|[1-9][0-9]{0,2}):(?:0|[1-9][0-9]{0,2})\])?)`
	toIs   = `([0-9]|[1-3][0-9]|40)`
)

// stmtIs are what the texts of the kinds are, as patterns of the library.
var stmtIs = map[int64]*regexp.Regexp{
	impl.StSet:    regexp.MustCompile(`\Aset (` + wordIs + `)(` + partIs + `{0,6})\z`),
	impl.StSecret: regexp.MustCompile(`\Asecret (` + wordIs + `) (` + wordIs + `)\z`),
	impl.StSay:    regexp.MustCompile(`\Asay ([0-2])(` + partIs + `{0,6})\z`),
	impl.StWait:   regexp.MustCompile(`\Await ([0-2]) ([!#-~]{1,40}) (` + wordIs + `) ` + toIs + `\z`),
	impl.StLog:    regexp.MustCompile(`\Alog(` + partIs + `{0,6})\z`),
	impl.StIf:     regexp.MustCompile(`\Aif (` + wordIs + `) ([!#-~]{1,30}) ` + toIs + `\z`),
	impl.StGoto:   regexp.MustCompile(`\Agoto ` + toIs + `\z`),
	impl.StEnd:    regexp.MustCompile(`\Aend ([0-9]|[1-9][0-9])\z`),
}

var (
	onePart = regexp.MustCompile(partIs)
	oneCut  = regexp.MustCompile(`\A \$(` + wordIs + `)\[([0-9]+):([0-9]+)\]\z`)
)

// stmtIn is, told without asking the program, the statement of which a text is the text, if there is one.
func stmtIn(line string) (impl.Stmt, bool) {
	for _, kind := range stmtKinds {
		found := stmtIs[kind].FindStringSubmatch(line)
		if found == nil {
			continue
		}
		s, right := impl.Stmt{Kind: kind}, true
		number := func(t string) int64 {
			n, _ := strconv.Atoi(t)
			return int64(n)
		}
		switch kind {
		case impl.StSet:
			s.Name = found[1]
			s.Parts, right = partsIn(found[2])
		case impl.StSecret:
			s.Name, s.Text = found[1], found[2]
		case impl.StSay:
			s.N = number(found[1])
			s.Parts, right = partsIn(found[2])
		case impl.StWait:
			s.N, s.Text, s.Name, s.To = number(found[1]), found[2], found[3], number(found[4])
			right = globIsRight(s.Text)
		case impl.StLog:
			s.Parts, right = partsIn(found[1])
		case impl.StIf:
			s.Name, s.Text, s.To = found[1], found[2], number(found[3])
			if s.Text == "." {
				s.Text = ""
			}
		case impl.StGoto:
			s.To = number(found[1])
		case impl.StEnd:
			s.N = number(found[1])
		}
		return s, right
	}
	return impl.Stmt{}, false
}

// partsIn are the parts of which a text is the text, if the numbers of each are right.
func partsIn(line string) ([]impl.Part, bool) {
	var parts []impl.Part
	for _, word := range onePart.FindAllString(line, -1) {
		if found := oneCut.FindStringSubmatch(word); found != nil {
			from, _ := strconv.Atoi(found[2])
			to, _ := strconv.Atoi(found[3])
			if from > to || to > 200 {
				return nil, false
			}
			parts = append(parts, cut(found[1], int64(from), int64(to)))
		} else if word[1] == '$' {
			parts = append(parts, variable(word[2:]))
		} else {
			parts = append(parts, text(word[2:len(word)-1]))
		}
	}
	return parts, true
}

// progIn is, told without asking the program, the program of which a text is the text, if there is one.
func progIn(lines string) ([]impl.Stmt, bool) {
	var prog []impl.Stmt
	for line := range strings.Lines(lines) {
		s, right := stmtIn(strings.TrimSuffix(line, "\n"))
		if !right || !strings.HasSuffix(line, "\n") || len(prog) == 40 {
			return nil, false
		}
		prog = append(prog, s)
	}
	return prog, true
}

// wantStmt checks that a text is read as it must be, which is told without asking the program.
func wantStmt(t *testing.T, line string) {
	t.Helper()
	want, right := stmtIn(line)
	got := impl.StmtRead(line)
	switch {
	case len(line) > impl.MaxBytes:
		wantNoStmt(t, line, got, impl.ErrSize)
	case !right:
		wantNoStmt(t, line, got, impl.ErrSyntax)
	case got.Code != impl.OK || !stmtsAlike(got.Stmt, want) || impl.StmtText(got.Stmt) != line:
		t.Errorf("%q: %+v, want %+v", line, got, want)
	}
}

// wantNoStmt checks that a code was told, and beside it the zero statement.
func wantNoStmt(t *testing.T, what string, got impl.StmtOut, code int64) {
	t.Helper()
	if got.Code != code || !stmtsAlike(got.Stmt, impl.Stmt{}) {
		t.Errorf("%.300q: %+v, want code %d and no statement", what, got, code)
	}
}

// wantProg checks that a text is read as it must be, which is told without asking the program.
func wantProg(t *testing.T, lines string) {
	t.Helper()
	want, right := progIn(lines)
	got := impl.ProgRead(lines)
	switch {
	case len(lines) > impl.MaxBytes:
		wantNoProg(t, lines, got, impl.ErrSize)
	case !right:
		wantNoProg(t, lines, got, impl.ErrSyntax)
	case got.Code != impl.OK || !slices.EqualFunc(got.Prog, want, stmtsAlike) || impl.ProgText(got.Prog) != lines:
		t.Errorf("%q: %+v, want %+v", lines, got, want)
	}
}

// wantNoProg checks that a code was told, and beside it no program.
func wantNoProg(t *testing.T, what string, got impl.ProgOut, code int64) {
	t.Helper()
	if got.Code != code || len(got.Prog) != 0 {
		t.Errorf("%.300q: %+v, want code %d and no program", what, got, code)
	}
}

// partFrom is a right part.
func partFrom(r *rand.Rand) impl.Part {
	switch r.Intn(3) {
	case 0:
		return text(bytesFrom(r, fromTo(' ', '~'), r.Intn(31)))
	case 1:
		return variable(wordFrom(r))
	}
	to := r.Intn(impl.MaxLab + 1)
	return cut(wordFrom(r), int64(r.Intn(to+1)), int64(to))
}

// bytesFrom is a text of n of some bytes.
func bytesFrom(r *rand.Rand, some string, n int) string {
	b := make([]byte, n)
	for i := range b {
		b[i] = some[r.Intn(len(some))]
	}
	return string(b)
}

// stmtFrom is a right statement, each kind as often.
func stmtFrom(r *rand.Rand) impl.Stmt {
	s := impl.Stmt{Kind: stmtKinds[r.Intn(len(stmtKinds))]}
	for _, field := range strings.Fields(fieldsOf[s.Kind]) {
		switch field {
		case "Name":
			s.Name = wordFrom(r)
		case "N":
			s.N = int64(r.Intn(impl.MaxSeats))
		case "To":
			s.To = int64(r.Intn(impl.MaxStmts + 1))
		case "Parts":
			for range r.Intn(7) {
				s.Parts = append(s.Parts, partFrom(r))
			}
		}
	}
	switch s.Kind {
	case impl.StSecret:
		s.Text = wordFrom(r)
	case impl.StWait:
		s.Text = globFrom(r, "abc:*?\\~!$[]", 1+r.Intn(impl.MaxGlob))
	case impl.StIf:
		s.Text = bytesFrom(r, fromTo('!', '~'), r.Intn(31))
		if s.Text == "." {
			s.Text = ""
		}
	case impl.StEnd:
		s.N = int64(r.Intn(100))
	}
	return s
}

// progFrom is a right program of n statements.
func progFrom(r *rand.Rand, n int) []impl.Stmt {
	var prog []impl.Stmt
	for range n {
		prog = append(prog, stmtFrom(r))
	}
	return prog
}

func TestConstantsOfChapterSeven(t *testing.T) {
	if impl.MaxStmts != 40 {
		t.Error("a limit is not the document's")
	}
	for i, kind := range stmtKinds {
		if kind != int64(i+1) {
			t.Errorf("the kind of statement %d is %d", i+1, kind)
		}
	}
	if impl.PtText != 1 || impl.PtVar != 2 || impl.PtCut != 3 {
		t.Error("a kind of part is not the document's")
	}
}

func TestPartRight(t *testing.T) {
	for _, p := range rightParts() {
		if !impl.PartRight(p.part) {
			t.Errorf("%+v is right", p.part)
		}
	}
	for what, p := range wrongParts() {
		if impl.PartRight(p) {
			t.Errorf("not right: %s", what)
		}
	}
	for n := range 300 {
		if got := impl.PartRight(text(strings.Repeat("a", n))); got != (n <= 30) {
			t.Errorf("a text of %d bytes: %v", n, got)
		}
		for _, p := range []impl.Part{variable(strings.Repeat("a", n)), cut(strings.Repeat("a", n), 1, 2)} {
			if got := impl.PartRight(p); got != (n >= 1 && n <= 12) {
				t.Errorf("%+v: %v", p, got)
			}
		}
	}
	for c := range 256 {
		for _, t1 := range []string{"", "a", strings.Repeat(" ", 29)} {
			p := text(t1 + string([]byte{byte(c)}))
			if got := impl.PartRight(p); got != (c >= 32 && c <= 126 && c != '"') {
				t.Errorf("%+v: %v", p, got)
			}
		}
	}
	for from := int64(-3); from <= 205; from++ {
		for to := int64(-3); to <= 205; to++ {
			if got := impl.PartRight(cut("q", from, to)); got != (0 <= from && from <= to && to <= 200) {
				t.Errorf("a cut from %d to %d: %v", from, to, got)
			}
			for _, kind := range []int64{impl.PtText, impl.PtVar, 0, 4} {
				p := impl.Part{Kind: kind, Text: "q", From: from, To: to}
				if got := impl.PartRight(p); got != (from == 0 && to == 0 && (kind == 1 || kind == 2)) {
					t.Errorf("%+v: %v", p, got)
				}
			}
		}
	}
}

func TestStmtRight(t *testing.T) {
	for _, s := range rightStmts() {
		if !impl.StmtRight(s.stmt) {
			t.Errorf("%+v is right", s.stmt)
		}
		if s.stmt.Parts == nil {
			s.stmt.Parts = []impl.Part{}
			if !impl.StmtRight(s.stmt) {
				t.Errorf("%+v is right with an empty list, too", s.stmt)
			}
		}
	}
	for _, s := range fewStmts() {
		for what, wrong := range otherwise(s.stmt) {
			if impl.StmtRight(wrong) {
				t.Errorf("not right: %s", what)
			}
			if got := impl.StmtText(wrong); got != "" {
				t.Errorf("%s: the text %q", what, got)
			}
		}
	}
}

// A statement of one kind, said to be of another, is right just where it has what that kind has.
func TestStmtRightByKind(t *testing.T) {
	for _, s := range rightStmts() {
		for _, kind := range append(noKinds, stmtKinds...) {
			other := stmtBut(s.stmt, func(s *impl.Stmt) { s.Kind = kind })
			if got := impl.StmtRight(other); got != stmtIsRight(other) {
				t.Errorf("%+v as %d: %v", s.stmt, kind, got)
			}
			if slices.Contains(noKinds, kind) && (impl.StmtRight(other) || impl.StmtText(other) != "") {
				t.Errorf("%+v as %d, which is no kind", s.stmt, kind)
			}
		}
	}
}

func TestStmtRightByNumber(t *testing.T) {
	for n := int64(-300); n <= 300; n++ {
		place, seat, exit := n >= 0 && n <= 40, n >= 0 && n <= 2, n >= 0 && n <= 99
		for _, c := range []struct {
			s    impl.Stmt
			want bool
		}{
			{impl.Stmt{Kind: impl.StSay, N: n}, seat},
			{impl.Stmt{Kind: impl.StSay, N: n, Parts: []impl.Part{variable("q")}}, seat},
			{impl.Stmt{Kind: impl.StWait, N: n, Text: "*", Name: "q", To: 40}, seat},
			{impl.Stmt{Kind: impl.StWait, N: 2, Text: "*", Name: "q", To: n}, place},
			{impl.Stmt{Kind: impl.StIf, Name: "q", To: n}, place},
			{impl.Stmt{Kind: impl.StIf, Name: "q", Text: "a", To: n}, place},
			{impl.Stmt{Kind: impl.StGoto, To: n}, place},
			{impl.Stmt{Kind: impl.StEnd, N: n}, exit},
		} {
			if got := impl.StmtRight(c.s); got != c.want {
				t.Errorf("%+v: %v", c.s, got)
			}
		}
	}
}

func TestStmtRightByLength(t *testing.T) {
	for n := range 300 {
		long := strings.Repeat("a", n)
		for _, c := range []struct {
			s    impl.Stmt
			want bool
		}{
			{impl.Stmt{Kind: impl.StSet, Name: long}, n >= 1 && n <= 12},
			{impl.Stmt{Kind: impl.StSecret, Name: long, Text: "q"}, n >= 1 && n <= 12},
			{impl.Stmt{Kind: impl.StSecret, Name: "q", Text: long}, n >= 1 && n <= 12},
			{impl.Stmt{Kind: impl.StWait, Text: "*", Name: long}, n >= 1 && n <= 12},
			{impl.Stmt{Kind: impl.StWait, Text: long, Name: "q"}, n >= 1 && n <= 40},
			{impl.Stmt{Kind: impl.StIf, Name: long}, n >= 1 && n <= 12},
			{impl.Stmt{Kind: impl.StIf, Name: "q", Text: long}, n <= 30},
			{impl.Stmt{Kind: impl.StIf, Name: "q", Text: strings.Repeat(".", n)}, n != 1 && n <= 30},
			{impl.Stmt{Kind: impl.StSet, Name: "q", Parts: slices.Repeat([]impl.Part{text("")}, n)}, n <= 6},
			{impl.Stmt{Kind: impl.StSay, Parts: slices.Repeat([]impl.Part{variable("q")}, n)}, n <= 6},
			{impl.Stmt{Kind: impl.StLog, Parts: slices.Repeat([]impl.Part{cut("q", 0, 1)}, n)}, n <= 6},
		} {
			if got := impl.StmtRight(c.s); got != c.want {
				t.Errorf("%+v: %v", c.s, got)
			}
		}
	}
}

func TestProgRight(t *testing.T) {
	some := rightStmts()
	if !impl.ProgRight(nil) || !impl.ProgRight([]impl.Stmt{}) {
		t.Error("the empty program is right")
	}
	for n := range 300 {
		prog := make([]impl.Stmt, n)
		for i := range prog {
			prog[i] = some[i%len(some)].stmt
		}
		if got := impl.ProgRight(prog); got != (n <= 40) {
			t.Errorf("a program of %d statements: %v", n, got)
		}
	}
	for place := range 40 {
		prog := slices.Repeat([]impl.Stmt{{Kind: impl.StLog}}, 40)
		for _, wrong := range []impl.Stmt{{}, {Kind: impl.StLog, To: 1}, {Kind: impl.StGoto, To: 41}, {Kind: 9}, {Kind: impl.StLog, Parts: []impl.Part{{}}}} {
			prog[place] = wrong
			for _, l := range [][]impl.Stmt{prog, prog[:place+1], prog[place:], prog[place : place+1]} {
				if impl.ProgRight(l) || impl.ProgText(l) != "" {
					t.Errorf("%+v at %d is not right", wrong, place)
				}
			}
		}
	}
}

func TestStmtText(t *testing.T) {
	for _, s := range rightStmts() {
		if got := impl.StmtText(s.stmt); got != s.text {
			t.Errorf("%+v: %q, want %q", s.stmt, got, s.text)
		}
	}
	for _, s := range []impl.Stmt{{}, {Kind: 9, Name: "q"}, {Kind: -1}, {Kind: impl.StSet}, {Kind: impl.StWait}, {Kind: impl.StIf}} {
		if got := impl.StmtText(s); got != "" {
			t.Errorf("%+v: %q", s, got)
		}
	}
}

func TestStmtRead(t *testing.T) {
	for _, s := range rightStmts() {
		got := impl.StmtRead(s.text)
		if got.Code != impl.OK || !stmtsAlike(got.Stmt, s.stmt) {
			t.Errorf("%q: %+v, want %+v", s.text, got, s.stmt)
		}
	}
}

func TestStmtReadFaults(t *testing.T) {
	wrong := []string{
		"", " ", "  ", "\n", "\x00", "q", "boom", "Set p", "sets p", "se p", "LOG", "logs", "lo", "loga", `log"a"`, "1", "set", "set ", "secret", "secret p", "secret p q r", "say", "wait", "if", "goto", "end",
		"secret  q", "secret p  q", "secret p ", "secret p Q", "secret p q1", "secret p .", "secret P q", `secret "p" q`, "secret $p q", "secret p thirteenlette",
		"set P", "set $p", "set 1", "set . ", "set p q", "set p .", "set p 1", "set thirteenlette", `set "a"`, `set p"a"`, "set p$q",
		"say 3", "say -1", "say 00", "say 01", "say +1", "say -0", "say 1.", "say 0x1", "say a", "say $p", "say 1_", "say 256", "say 4294967296", "say 18446744073709551616", "say 1$p", "say 1 p",
		"wait", "wait 1", "wait 1 *", "wait 1 * q", "wait 1 * q 1 2", "wait 3 * q 1", "wait 01 * q 1", "wait 1 * q 41", "wait 1 * q 01", "wait 1 * Q 1", `wait 1 \ q 1`, `wait 1 a\ q 1`, `wait 1 " q 1`, `wait 1 "a" q 1`, `wait 1 a"b q 1`,
		"wait 1  q 1", "wait 1 * q -1", "wait 1 * q +1", "wait 1 * q ", "wait 1 * $q 1", "wait 1 \x7f q 1", "wait 1 a\tb q 1", "wait 1 " + strings.Repeat("a", 41) + " q 1",
		"if q 0", "if q  0", "if q . ", "if q .", "if q . 41", "if q . 00", "if q . -1", "if q . -0", "if q . +0", "if q . 1 2", "if Q . 1", "if q \" 1", `if q "" 1`, `if q "a" 1`, "if q \x7f 1", "if q a\tb 1", "if $q . 1", "if q " + strings.Repeat("a", 31) + " 1", "if  . 1",
		"goto -1", "goto 41", "goto 00", "goto 01", "goto +1", "goto -0", "goto 1.0", "goto 1 2", "goto a", "goto .", "goto 040", "goto 1e1", "goto 0x1", "goto 1_0", "goto ١", "goto 4294967297", "goto 18446744073709551617",
		"end -1", "end 100", "end 00", "end 07", "end +7", "end -0", "end 7 7", "end a", "end 099", "end 9_9", "end 4294967303", "end 9223372036854775808",
		`log "`, `log "a`, `log a"`, `log """`, `log ""a`, `log ""a""`, `log """"`, `log "a""b"`, `log "a"$q`, `log $q"a"`, `log "a" "`, `log "a b`, `log a b`, `log a`, "log 'a'", "log `a`", "log \"\x7f\"", "log \"\x1f\"", "log \"\t\"", "log \"\n\"", "log \"ä\"", "log \"\xff\"",
		"log $", "log $Q", "log $q1", "log $$q", "log q$", "log $q$q", "log $q[", "log $q]", "log $q[]", "log $q[:]", "log $q[0]", "log $q[0:]", "log $q[:1]", "log $q[0:1", "log $q0:1]", "log $q(0:1)", "log $q[0-1]", "log $q[0:1]]", "log $q[[0:1]", "log $q[0:1:2]", "log $q[0:1]a", "log $q[0:1][0:1]", "log $[0:1]",
		"log $q[1:0]", "log $q[00:1]", "log $q[0:01]", "log $q[-1:1]", "log $q[-0:1]", "log $q[+0:1]", "log $q[0:201]", "log $q[201:201]", "log $q[0:4294967297]", "log $q[0: 1]", "log $q[0 :1]", "log $q [0:1]", "log $ q", "log $q[a:b]", "log $q[0:1_0]",
		"log $a $b $c $d $e $f $g", "log" + strings.Repeat(` ""`, 7), "log" + strings.Repeat(` ""`, 262), "log $thirteenlette", `log "` + strings.Repeat("a", 31) + `"`,
		"log\n", "log\nlog", "log\nlog\n", "goto 1\n", "\nlog", "log\r", "log\x00", "log\t$q", "log\u00a0$q", "\ufefflog", "ſet p", strings.Repeat(" ", impl.MaxBytes), "log" + strings.Repeat(" ", impl.MaxBytes-3), strings.Repeat("\"", impl.MaxBytes), `log "` + strings.Repeat("a", impl.MaxBytes-6) + `"`,
	}
	for _, line := range wrong {
		if _, right := stmtIn(line); right {
			t.Errorf("%q is read", line)
		}
		wantNoStmt(t, line, impl.StmtRead(line), impl.ErrSyntax)
		wantProg(t, "log\n"+line+"\nend 0\n")
	}
}

// Blanks stand one between all, and nowhere else.
func TestStmtReadBlanks(t *testing.T) {
	for _, s := range rightStmts() {
		for _, line := range []string{" " + s.text, s.text + " ", s.text + "  ", "  " + s.text, s.text + "\n", "\n" + s.text, s.text + "\r", s.text + "\t", s.text + "\x00", s.text + ".", s.text + `"`} {
			wantStmt(t, line)
			if line[0] == ' ' || strings.HasSuffix(line, " ") || strings.Contains(line, "\n") {
				wantNoStmt(t, line, impl.StmtRead(line), impl.ErrSyntax)
			}
		}
		for i := range len(s.text) {
			if s.text[i] != ' ' {
				continue
			}
			for _, between := range []string{"", "  ", "\t", "\n", "\x00", " \t", "_", "\u00a0", "   ", `" "`} {
				wantStmt(t, s.text[:i]+between+s.text[i+1:])
			}
			if !strings.Contains(s.text[:i], `"`) {
				wantNoStmt(t, s.text, impl.StmtRead(s.text[:i]+"  "+s.text[i+1:]), impl.ErrSyntax)
			}
		}
	}
}

// Each number is read of the digits alone with which it is written.
func TestStmtReadNumbers(t *testing.T) {
	ways := []string{"%d", "+%d", "-%d", "0%d", "00%d", "%d0", "%d.0", "%d.", "%d_", "0x%d", "%de0", " %d", "%d ", "\t%d", "%d\n", "$%d", "(%d)", `"%d"`, "%d,"}
	for n := range 300 {
		for _, way := range ways {
			digits := fmt.Sprintf(way, n)
			for _, line := range []string{"say @", "wait @ * q 1", "wait 1 * q @", "if q . @", "goto @", "end @", "log $q[@:200]", "log $q[0:@]", "log $q[@:@]", "set p $q[@:@] $q[0:1]"} {
				written := strings.ReplaceAll(line, "@", digits)
				wantStmt(t, written)
				if !onlyOf(digits, "0123456789") || len(digits) > 1 && digits[0] == '0' {
					wantNoStmt(t, written, impl.StmtRead(written), impl.ErrSyntax)
				}
			}
		}
	}
}

func TestProgText(t *testing.T) {
	some := rightStmts()
	if got := impl.ProgText(nil); got != "" {
		t.Errorf("the empty program: %q", got)
	}
	for n := range 41 {
		for from := range some {
			var prog []impl.Stmt
			want := ""
			for i := range n {
				next := some[(from+i)%len(some)]
				prog, want = append(prog, next.stmt), want+next.text+"\n"
			}
			if got := impl.ProgText(prog); got != want {
				t.Fatalf("%+v: %q, want %q", prog, got, want)
			}
		}
	}
	for _, n := range []int{41, 42, 256, 257, 296, impl.MaxList, impl.MaxList + 1, 1 << 16} {
		if got := impl.ProgText(slices.Repeat([]impl.Stmt{{Kind: impl.StLog}}, n)); got != "" {
			t.Errorf("%d statements have the text %q", n, got)
		}
	}
}

func TestProgRead(t *testing.T) {
	some := rightStmts()
	for n := range 41 {
		for from := 0; from < len(some); from += 5 {
			var want []impl.Stmt
			lines := ""
			for i := range n {
				next := some[(from+i)%len(some)]
				want, lines = append(want, next.stmt), lines+next.text+"\n"
			}
			got := impl.ProgRead(lines)
			if got.Code != impl.OK || !slices.EqualFunc(got.Prog, want, stmtsAlike) {
				t.Fatalf("%q: %+v, want %+v", lines, got, want)
			}
			if n == 0 {
				continue
			}
			for _, wrong := range []string{lines[:len(lines)-1], lines + "\n", "\n" + lines, lines + " ", lines + "log", lines + " \n", lines + "boom\n", lines + "\x00\n", lines[:len(lines)-1] + "\r\n", lines[:len(lines)-1] + " \n", " " + lines, "q\n" + lines} {
				wantNoProg(t, wrong, impl.ProgRead(wrong), impl.ErrSyntax)
			}
		}
	}
}

func TestProgReadFaults(t *testing.T) {
	for _, lines := range []string{"\n", "\n\n", " ", " \n", "log", "log\n\n", "\nlog\n", "log\n\nlog\n", "log\nlog", "log log\n", "log\r\n", "log\rlog\n", "log;log\n", "log\x00", "log\\nlog\n", "log \"\n\"\n", "log \"a\nb\"\n", "log\nboom\n", "boom\nlog\n", "goto 41\n", "log\u2028log\n", "log\u0085log\n", "\x00\n"} {
		wantNoProg(t, lines, impl.ProgRead(lines), impl.ErrSyntax)
	}
	for _, n := range []int{41, 42, 80, 256, 257, 296, 297, 2000} {
		lines := strings.Repeat("log\n", n)
		wantNoProg(t, "many lines", impl.ProgRead(lines), impl.ErrSyntax)
		wantNoProg(t, "many empty lines", impl.ProgRead(strings.Repeat("\n", n)), impl.ErrSyntax)
		wantNoProg(t, "many wrong lines", impl.ProgRead(strings.Repeat("a\n", n)), impl.ErrSyntax)
	}
	right := strings.Repeat("log\n", 40)
	for place := range 40 {
		for _, wrong := range []string{"", " ", "boom", "log ", " log", "goto 41", "log\r", `log "`, "set"} {
			lines := right[:4*place] + wrong + "\n" + right[4*place+4:]
			wantNoProg(t, lines, impl.ProgRead(lines), impl.ErrSyntax)
		}
		without := right[:4*place+3] + right[4*place+4:]
		wantNoProg(t, without, impl.ProgRead(without), impl.ErrSyntax)
	}
}

// Promise 7: a right statement, and a right program, comes back from its text.
func TestStatementsAndProgramsComeBack(t *testing.T) {
	r := rand.New(rand.NewSource(7))
	for i := range 6000 {
		s := stmtFrom(r)
		if !stmtIsRight(s) || !impl.StmtRight(s) {
			t.Fatalf("%+v is right", s)
		}
		line := impl.StmtText(s)
		got := impl.StmtRead(line)
		if line == "" || got.Code != impl.OK || !stmtsAlike(got.Stmt, s) {
			t.Fatalf("%+v: %q: %+v", s, line, got)
		}
		wantStmt(t, line)
		if i%20 != 0 {
			continue
		}
		prog := progFrom(r, r.Intn(41))
		lines := impl.ProgText(prog)
		if len(lines) > impl.MaxBytes {
			continue
		}
		back := impl.ProgRead(lines)
		if !impl.ProgRight(prog) || back.Code != impl.OK || !slices.EqualFunc(back.Prog, prog, stmtsAlike) {
			t.Fatalf("%+v: %q: %+v", prog, lines, back)
		}
		wantProg(t, lines)
	}
}

// Of each text that is read, what was read has that text; each other one is refused.
func TestWhatIsReadHasThatText(t *testing.T) {
	r := rand.New(rand.NewSource(77))
	some, right, wrong := ` "$[]:.,0123456789+-_\abqzAZ*?~!#`+"\n\t\x00\x7f\x1f\xff", 0, 0
	for range 40000 {
		line := impl.StmtText(stmtFrom(r))
		for range 1 + r.Intn(2) {
			line = edited(r, line, some)
		}
		wantStmt(t, line)
		if impl.StmtRead(line).Code == impl.OK {
			right++
		} else {
			wrong++
		}
	}
	if right < 4000 || wrong < 4000 {
		t.Errorf("%d texts were read, and %d were not", right, wrong)
	}
	for range 1500 {
		lines := edited(r, impl.ProgText(progFrom(r, 1+r.Intn(6))), some)
		wantProg(t, lines)
		wantProg(t, edited(r, lines, "\n"))
	}
}

// edited is a text in which one byte is put in, left out, or another one.
func edited(r *rand.Rand, line string, some string) string {
	if line == "" {
		return line
	}
	at, b := r.Intn(len(line)), some[r.Intn(len(some))]
	switch r.Intn(4) {
	case 0:
		return line[:at] + line[at+1:]
	case 1:
		return line[:at] + string([]byte{b}) + line[at:]
	case 2:
		return line[:at] + string([]byte{b}) + line[at+1:]
	}
	words := strings.Split(line, " ")
	from, to := r.Intn(len(words)), r.Intn(len(words))
	words[from], words[to] = words[to], words[from]
	return strings.Join(words, " ")
}

// All short texts behind a first word are read as they must be.
func TestShortTextsAreRead(t *testing.T) {
	for _, n := range []int{1, 2, 3, 4, 5} {
		for _, rest := range textsOf(` "$a[0`, n) {
			wantStmt(t, "log"+rest)
		}
	}
	for _, rest := range textsOf(` "$a`, 6) {
		wantStmt(t, "say 1"+rest)
	}
	for _, rest := range textsOf(" 04.a-+", 4) {
		for _, first := range []string{"goto", "end", "if q", "if q . ", "log $a["} {
			wantStmt(t, first+rest)
		}
		wantStmt(t, "log $a[0:"+rest+"]")
	}
}

// A statement is right just where it is told without asking the program, whatever is in its fields.
func TestStmtRightWhateverItHas(t *testing.T) {
	r := rand.New(rand.NewSource(707))
	right := 0
	for range 40000 {
		s, other := stmtFrom(r), stmtFrom(r)
		for range 1 + r.Intn(2) {
			switch r.Intn(6) {
			case 0:
				s.Kind = other.Kind
			case 1:
				s.Name = other.Name
			case 2:
				s.Text = other.Text
			case 3:
				s.N = other.N
			case 4:
				s.To = other.To
			case 5:
				s.Parts = other.Parts
			}
		}
		want := stmtIsRight(s)
		if want {
			right++
		}
		if got := impl.StmtRight(s); got != want || (impl.StmtText(s) != "") != want || impl.ProgRight([]impl.Stmt{s}) != want {
			t.Fatalf("%+v: %v, want %v", s, got, want)
		}
	}
	if right < 2000 || right > 38000 {
		t.Errorf("%d are right", right)
	}
}

// A right program whose text is as long as a text may be comes back; one of a longer text has it all the same, but that text is too large to be handed in.
func TestLongestPrograms(t *testing.T) {
	long := impl.Stmt{Kind: impl.StSet, Name: "twelveletter", Parts: slices.Repeat([]impl.Part{text(strings.Repeat("a", 30))}, 6)}
	log := func(n int) impl.Stmt {
		return impl.Stmt{Kind: impl.StLog, Parts: []impl.Part{text(strings.Repeat("b", n))}}
	}
	prog := append(slices.Repeat([]impl.Stmt{long}, 37), log(30), impl.Stmt{Kind: impl.StLog}, impl.Stmt{Kind: impl.StLog})
	lines := impl.ProgText(prog)
	if len(lines) != impl.MaxBytes {
		t.Fatalf("the text has %d bytes", len(lines))
	}
	if got := impl.ProgRead(lines); got.Code != impl.OK || !slices.EqualFunc(got.Prog, prog, stmtsAlike) {
		t.Errorf("code %d, %d statements", got.Code, len(got.Prog))
	}
	prog[37], prog[39] = log(29), impl.Stmt{Kind: impl.StEnd, N: 7}
	lines = impl.ProgText(prog)
	if len(lines) != impl.MaxBytes+1 || !impl.ProgRight(prog) {
		t.Fatalf("the text has %d bytes", len(lines))
	}
	wantNoProg(t, "one byte more", impl.ProgRead(lines), impl.ErrSize)
	lines = impl.ProgText(slices.Repeat([]impl.Stmt{long}, 40))
	if want := strings.Repeat(impl.StmtText(long)+"\n", 40); lines != want || len(lines) != 8600 {
		t.Errorf("the text has %d bytes", len(lines))
	}
	wantNoProg(t, "the longest program", impl.ProgRead(lines), impl.ErrSize)
}

// A text, or a list, that is too large is refused ahead of all else, by each call that takes one.
func TestTooLargeForProgramsIsRefused(t *testing.T) {
	for _, n := range []int{impl.MaxBytes + 1, 2 * impl.MaxBytes, 1 << 20} {
		for _, some := range []string{"a", "\n", " ", "\"", "log\n"} {
			large := strings.Repeat(some, n)[:n]
			wantNoStmt(t, "a text of "+strconv.Itoa(n), impl.StmtRead(large), impl.ErrSize)
			wantNoProg(t, "a text of "+strconv.Itoa(n), impl.ProgRead(large), impl.ErrSize)
			wantNoStmt(t, "a text of MaxBytes", impl.StmtRead(large[:impl.MaxBytes]), impl.ErrSyntax)
			wantNoProg(t, "a text of MaxBytes", impl.ProgRead(large[:impl.MaxBytes]), impl.ErrSyntax)
		}
		wantNoStmt(t, "a log of "+strconv.Itoa(n), impl.StmtRead("log "+strings.Repeat(" ", n)[4:]), impl.ErrSize)
	}
	for _, n := range []int{impl.MaxList, impl.MaxList + 1, 2 * impl.MaxList, 1 << 16} {
		for _, s := range []impl.Stmt{{}, {Kind: impl.StLog}} {
			large := slices.Repeat([]impl.Stmt{s}, n)
			if impl.ProgRight(large) || impl.ProgText(large) != "" {
				t.Errorf("%d statements are no program", n)
			}
		}
	}
}

// What is handed in is not changed, nor what stands behind it in the same memory, and nothing is kept.
func TestProgramsStayAsTheyAre(t *testing.T) {
	name, said, line, lines := []byte("twelveletter"), []byte("a b"), []byte(`set p "a b" $q $r[0:3]`), []byte("log \"a\"\nend 7\n")
	memory := []impl.Part{{Kind: impl.PtText, Text: unsafe.String(&said[0], len(said))}, variable("q"), cut("r", 0, 3), {Kind: 9, Text: "behind"}}
	s := impl.Stmt{Kind: impl.StSet, Name: unsafe.String(&name[0], len(name)), Parts: memory[:3]}
	whole := []impl.Stmt{s, {Kind: impl.StGoto, To: 1}, {Kind: impl.StLog, Parts: memory[1:2]}, {Kind: 9, Parts: memory}}
	want := []impl.Part{text("a b"), variable("q"), cut("r", 0, 3), {Kind: 9, Text: "behind"}}
	for range 3 {
		if !impl.StmtRight(s) || !impl.ProgRight(whole[:3]) || impl.ProgRight(whole) || !impl.PartRight(memory[0]) || impl.StmtRight(whole[3]) {
			t.Error("a later call answers otherwise")
		}
		if got := impl.StmtText(s); got != `set twelveletter "a b" $q $r[0:3]` {
			t.Errorf("a later call: %q", got)
		}
		if got := impl.ProgText(whole[:3]); got != "set twelveletter \"a b\" $q $r[0:3]\ngoto 1\nlog $q\n" {
			t.Errorf("a later call: %q", got)
		}
		read := impl.StmtRead(unsafe.String(&line[0], len(line)))
		if read.Code != impl.OK || !stmtsAlike(read.Stmt, impl.Stmt{Kind: impl.StSet, Name: "p", Parts: want[:3]}) {
			t.Errorf("a later call: %+v", read)
		}
		spoilParts(read.Stmt.Parts)
		all := impl.ProgRead(unsafe.String(&lines[0], len(lines)))
		if all.Code != impl.OK || !slices.EqualFunc(all.Prog, []impl.Stmt{{Kind: impl.StLog, Parts: []impl.Part{text("a")}}, {Kind: impl.StEnd, N: 7}}, stmtsAlike) {
			t.Errorf("a later call: %+v", all)
		}
		spoilProg(all.Prog)
		impl.StmtText(whole[3])
		impl.ProgText(whole)
	}
	if !slices.Equal(memory, want) || string(name) != "twelveletter" || string(said) != "a b" {
		t.Errorf("what was handed in has changed: %+v", memory)
	}
	if string(line) != `set p "a b" $q $r[0:3]` || !bytes.Equal(lines, []byte("log \"a\"\nend 7\n")) {
		t.Errorf("a text that was handed in has changed: %q, %q", line, lines)
	}
	if !stmtsAlike(whole[0], impl.Stmt{Kind: impl.StSet, Name: "twelveletter", Parts: want[:3]}) || whole[1].To != 1 || whole[3].Kind != 9 {
		t.Errorf("what was handed in has changed: %+v", whole)
	}
}

// An answer shares no memory with what was handed in, nor with another answer, nor do two of its lists.
func TestProgramsAreNew(t *testing.T) {
	for _, s := range rightStmts() {
		line := strings.Clone(s.text)
		first, second := impl.StmtRead(line).Stmt, impl.StmtRead(line).Stmt
		for _, a := range textsIn(first) {
			for _, b := range append(textsIn(second), line) {
				if len(a) > 1 && shares(a, b) {
					t.Errorf("%q: %q shares memory with %q", line, a, b)
				}
			}
		}
		spoilParts(second.Parts)
		if !stmtsAlike(first, s.stmt) || !stmtsAlike(impl.StmtRead(line).Stmt, s.stmt) {
			t.Errorf("%q: two answers share memory", line)
		}
		given := stmtCopy(s.stmt)
		written, lines := impl.StmtText(given), impl.ProgText([]impl.Stmt{given})
		for _, b := range textsIn(given) {
			if shares(written, b) || shares(lines, b) {
				t.Errorf("%q shares memory with %q", written, b)
			}
		}
		if shares(written, impl.StmtText(given)) && written != "log" || shares(lines, impl.ProgText([]impl.Stmt{given})) {
			t.Errorf("two texts %q share memory", written)
		}
	}
	r := rand.New(rand.NewSource(7007))
	for range 200 {
		lines := impl.ProgText(progFrom(r, 2+r.Intn(20)))
		want, first, second := impl.ProgRead(lines).Prog, impl.ProgRead(lines).Prog, impl.ProgRead(lines).Prog
		for i := range second {
			spoilParts(second[i].Parts)
			for j := range second {
				if j > i && !stmtsAlike(second[j], want[j]) {
					t.Fatalf("%q: the parts of %d and of %d share memory", lines, i, j)
				}
			}
		}
		spoilProg(second)
		if !slices.EqualFunc(first, want, stmtsAlike) {
			t.Fatalf("%q: two answers share memory", lines)
		}
		for _, s := range first {
			for _, a := range textsIn(s) {
				if len(a) > 1 && shares(a, lines) {
					t.Fatalf("%q shares memory with the text that was read", a)
				}
			}
		}
	}
}

// textsIn are all texts of a statement.
func textsIn(s impl.Stmt) []string {
	l := []string{s.Name, s.Text}
	for _, p := range s.Parts {
		l = append(l, p.Text)
	}
	return l
}

// spoilParts writes over all memory of a list of parts, behind its end, too.
func spoilParts(l []impl.Part) {
	l = l[:cap(l)]
	for i := range l {
		l[i] = impl.Part{Kind: 7, Text: "spoilt", From: 7, To: 7}
	}
}

// spoilProg writes over all memory of a program, behind its end, too.
func spoilProg(l []impl.Stmt) {
	for _, s := range l {
		spoilParts(s.Parts)
	}
	l = l[:cap(l)]
	for i := range l {
		l[i] = impl.Stmt{Kind: 7, Name: "spoilt", To: 7}
	}
}
