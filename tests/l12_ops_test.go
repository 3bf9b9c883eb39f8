package tests

import (
	"fmt"
	"math"
	"runtime/debug"
	"slices"
	"strings"
	"testing"

	"loop.example/g00964/impl"
)

func variable(name string, told impl.Type, dirs ...impl.Dir) impl.VarDef {
	return impl.VarDef{Name: name, Type: told, Dirs: dirs}
}

func defaulted(v impl.VarDef, value impl.Value) impl.VarDef {
	v.Has, v.Default = true, value
	return v
}

func question(kind int, name string, sels ...impl.Sel) impl.Op {
	return impl.Op{Kind: kind, Name: name, Sels: sels}
}

func filled(o impl.Op, vars ...impl.VarDef) impl.Op {
	o.Vars = vars
	return o
}

func steered(o impl.Op, dirs ...impl.Dir) impl.Op {
	o.Dirs = dirs
	return o
}

func piece(name string, on string, sels ...impl.Sel) impl.Frag {
	return impl.Frag{Name: name, On: on, Sels: sels}
}

func steeredPiece(f impl.Frag, dirs ...impl.Dir) impl.Frag {
	f.Dirs = dirs
	return f
}

func constOracle(list []impl.Dir) bool {
	for _, d := range list {
		for _, a := range d.Args {
			if len(varsOracle(a.Value)) > 0 {
				return false
			}
		}
	}
	return true
}

// The chapter's words, written another way, to hold the program against: what is printed, and whether it is right.
func varDefOracle(v impl.VarDef) (string, bool) {
	value, _, right := valueOracle(v.Default)
	right = right && len(varsOracle(v.Default)) == 0
	if v.Has {
		value = " = " + value
	} else {
		right = shownOracle(v.Default) == shownOracle(impl.Value{})
	}
	dirs, steered := dirsOracle(v.Dirs)
	text := fmt.Sprintf("$%s: %s%s%s", v.Name, typeTextOracle(v.Type), value, dirs)
	return text, right && steered && constOracle(v.Dirs) && nameOracle(v.Name) && typeOkOracle(v.Type)
}

func bodyOracle(list []impl.Sel) (string, bool) {
	all, right := 0, len(list) > 0
	for _, s := range list {
		ok, many, _ := selOracle(s)
		right = right && ok
		all += many
	}
	if !right || all > 120 {
		return "", false
	}
	return " {\n" + selsTextOracle(list, 1) + "}\n", true
}

// Only what is right has a text: one that is empty tells what is not. The short form is what is left of the long one without its word.
func opOracle(o impl.Op) string {
	vars := []string{}
	right := o.Name == "" || nameOracle(o.Name)
	for _, v := range o.Vars {
		text, ok := varDefOracle(v)
		right = right && ok
		vars = append(vars, text)
	}
	dirs, steered := dirsOracle(o.Dirs)
	body, asked := bodyOracle(o.Sels)
	word := map[int]string{1: "query", 2: "mutation", 3: "subscription"}[o.Kind]
	if !right || !steered || !asked || word == "" {
		return ""
	}
	list := strings.TrimSuffix("("+strings.Join(vars, ", ")+")", "()")
	text := strings.TrimRight(word+" "+o.Name, " ") + list + dirs + body
	if rest, short := strings.CutPrefix(text, "query {"); short {
		return "{" + rest
	}
	return text
}

func fragOracle(f impl.Frag) string {
	dirs, steered := dirsOracle(f.Dirs)
	body, asked := bodyOracle(f.Sels)
	if !nameOracle(f.Name) || f.Name == "on" || !nameOracle(f.On) || !steered || !asked {
		return ""
	}
	return fmt.Sprintf("fragment %s on %s%s%s", f.Name, f.On, dirs, body)
}

func shownVars(list []impl.VarDef) string {
	text := fmt.Sprint(len(list))
	for _, v := range list {
		text += fmt.Sprintf(" <%q %q %v %s %s>", v.Name, v.Type, v.Has, shownOracle(v.Default), shownDirs(v.Dirs))
	}
	return text
}

func shownOp(o impl.Op) string {
	return fmt.Sprintf("%d %q (%s) %s {%s}", o.Kind, o.Name, shownVars(o.Vars), shownDirs(o.Dirs), shownSels(o.Sels))
}

func shownFrag(f impl.Frag) string {
	return fmt.Sprintf("%q on %q %s {%s}", f.Name, f.On, shownDirs(f.Dirs), shownSels(f.Sels))
}

// wantOp is for questions that are right where there is a text, and are not where it is empty.
func wantOp(t *testing.T, text string, o impl.Op) {
	t.Helper()
	if got := impl.OpOk(o); got != (text != "") {
		t.Errorf("OpOk(%.300s) is %v", shownOp(o), got)
	}
	if got := impl.OpText(o); got != text {
		t.Errorf("OpText(%.300s): %.300q, want %.300q", shownOp(o), got, text)
	}
}

func wantFrag(t *testing.T, text string, f impl.Frag) {
	t.Helper()
	if got := impl.FragOk(f); got != (text != "") {
		t.Errorf("FragOk(%.300s) is %v", shownFrag(f), got)
	}
	if got := impl.FragText(f); got != text {
		t.Errorf("FragText(%.300s): %.300q, want %.300q", shownFrag(f), got, text)
	}
}

// wantRightOp is for questions that are taken for right: by the chapter's words they have a text.
func wantRightOp(t *testing.T, o impl.Op) {
	t.Helper()
	text := opOracle(o)
	if text == "" {
		t.Errorf("%.300s is taken for right", shownOp(o))
	}
	wantOp(t, text, o)
}

func wantRightFrag(t *testing.T, f impl.Frag) {
	t.Helper()
	text := fragOracle(f)
	if text == "" {
		t.Errorf("%.300s is taken for right", shownFrag(f))
	}
	wantFrag(t, text, f)
}

func wantVarDefOk(t *testing.T, v impl.VarDef, right bool) {
	t.Helper()
	if got := impl.VarDefOk(v); got != right {
		t.Errorf("VarDefOk(%.300s) is %v", shownVars([]impl.VarDef{v}), got)
	}
}

// wantVar is for variables that are right; they are so wherever they stand.
func wantVar(t *testing.T, text string, v impl.VarDef) {
	t.Helper()
	wantVarDefOk(t, v, true)
	wantOp(t, "query("+text+") {\n  b\n}\n", filled(question(1, "", field("b")), v))
	wantOp(t, "mutation Q($a: Int, "+text+") {\n  b\n}\n", filled(question(2, "Q", field("b")), plainVar, v))
	wantOp(t, "subscription("+text+", "+text+", $a: Int) @d {\n  b\n}\n", steered(filled(question(3, "", field("b")), v, v, plainVar), oneDir...))
}

func wantRightVar(t *testing.T, v impl.VarDef) {
	t.Helper()
	text, right := varDefOracle(v)
	if !right {
		t.Errorf("%.300s is taken for right", shownVars([]impl.VarDef{v}))
	}
	wantVar(t, text, v)
}

// wantWrongVar is for variables that are not right; they make each question wrong that has them.
func wantWrongVar(t *testing.T, v impl.VarDef) {
	t.Helper()
	wantVarDefOk(t, v, false)
	for kind := 1; kind <= 3; kind++ {
		for _, vars := range [][]impl.VarDef{{v}, {v, plainVar}, {v, plainVar, plainVar}, {plainVar, v, plainVar}, {plainVar, plainVar, v}, {v, v}} {
			wantOp(t, "", filled(question(kind, "", field("b")), vars...))
			wantOp(t, "", steered(filled(question(kind, "Q", field("b")), vars...), oneDir...))
		}
	}
}

func wantVarAsOracle(t *testing.T, v impl.VarDef) {
	t.Helper()
	if _, right := varDefOracle(v); right {
		wantRightVar(t, v)
	} else {
		wantWrongVar(t, v)
	}
}

// wantDirsEverywhere holds questions of each kind and pieces with these directives to what is told of them.
func wantDirsEverywhere(t *testing.T, right bool, dirs ...impl.Dir) {
	t.Helper()
	for kind := 1; kind <= 3; kind++ {
		for _, o := range []impl.Op{question(kind, "", field("b")), question(kind, "Q", field("b")), filled(question(kind, "", field("b")), plainVar)} {
			wantOpRight(t, right, steered(o, dirs...))
		}
	}
	wantFragRight(t, right, steeredPiece(piece("F", "T", field("b")), dirs...))
}

// wantSelsEverywhere does the same with these Sels.
func wantSelsEverywhere(t *testing.T, right bool, sels ...impl.Sel) {
	t.Helper()
	for kind := 1; kind <= 3; kind++ {
		for _, o := range []impl.Op{question(kind, "", sels...), question(kind, "Q", sels...), filled(question(kind, "", sels...), plainVar), steered(question(kind, "", sels...), oneDir...)} {
			wantOpRight(t, right, o)
		}
	}
	wantFragRight(t, right, piece("F", "T", sels...))
	wantFragRight(t, right, steeredPiece(piece("F", "T", sels...), oneDir...))
}

func wantOpRight(t *testing.T, right bool, o impl.Op) {
	t.Helper()
	if right {
		wantRightOp(t, o)
	} else {
		wantOp(t, "", o)
	}
}

func wantFragRight(t *testing.T, right bool, f impl.Frag) {
	t.Helper()
	if right {
		wantRightFrag(t, f)
	} else {
		wantFrag(t, "", f)
	}
}

var (
	plainVar  = variable("a", typ("Int", ""))
	wordKinds = map[int]string{impl.OpQuery: "query", impl.OpMutation: "mutation", impl.OpSubscription: "subscription"}
	noOpKinds = []int{0, 4, 5, 7, 8, 9, 10, -1, -2, -3, -4, 16, 255, 256 + 1, 1<<16 + 1, 1<<32 + 1, 1<<32 + 2, 1<<32 + 3, -1<<32 + 1, math.MinInt, math.MinInt + 1, math.MinInt + 2, math.MaxInt, math.MaxInt - 1}
	wrongName = slices.Concat([]string{" ", "a ", " a", "1", "1a", "-", "a-b", "a.b", "$a", "@a", "a:", "a(", "é", "aé", "a\n", "\na", "a\x00", "a b", "a,b", "\"a\"", "\xff", "#a", tooLongName}, wholeTexts, otherTexts, wrongTexts, allSigns, allGaps)
)

func constValues() []impl.Value {
	return slices.DeleteFunc(manyRight(), func(v impl.Value) bool { return len(varsOracle(v)) > 0 })
}

func constDirs() [][]impl.Dir {
	return slices.DeleteFunc(manyDirs(), func(list []impl.Dir) bool { return !constOracle(list) })
}

// manyVars has right variables: of each right type, with each kind of value and of directive, and without.
func manyVars() []impl.VarDef {
	vars, types, dirs := []impl.VarDef{}, manyTypes(), constDirs()
	for i, x := range types {
		vars = append(vars, variable(typeNames[i%len(typeNames)], x), variable(selNames[i%len(selNames)], x, dirs[i%len(dirs)]...))
	}
	for i, value := range constValues() {
		name, x := selNames[(i/3)%len(selNames)], types[i%len(types)]
		vars = append(vars, defaulted(variable(name, x), value), defaulted(variable(name, x, dirs[i%len(dirs)]...), value))
	}
	for i, list := range dirs {
		vars = append(vars, variable("a", types[i%len(types)], list...))
	}
	return vars
}

// manyOps has right questions: of each kind, with and without each of their parts, which are put together in many ways.
func manyOps() []impl.Op {
	ops, vars, dirs := []impl.Op{}, manyVars(), manyDirs()
	for i, sels := range manySels() {
		o := question(1+i%3, "", sels...)
		if i%2 == 1 {
			o.Name = selNames[(i/5)%len(selNames)]
		}
		if i%5 > 1 {
			from := (i * 7) % (len(vars) - 3)
			o.Vars = vars[from : from+i%4]
		}
		if i%7 > 2 {
			o.Dirs = dirs[i%len(dirs)]
		}
		ops = append(ops, question(1, "", sels...), o)
	}
	return ops
}

// opPieces has the text of each token of a right question ahead of its Sels, and those of the Sels.
func opPieces(o impl.Op) []string {
	pieces := []string{wordKinds[o.Kind], o.Name}
	for i, v := range o.Vars {
		pieces = append(pieces, []string{"(", ","}[min(i, 1)], "$", v.Name, ":")
		pieces = append(pieces, typePieces(v.Type)...)
		if v.Has {
			pieces = append(append(pieces, "="), piecesOf(v.Default)...)
		}
		pieces = append(pieces, dirPieces(v.Dirs)...)
	}
	if len(o.Vars) > 0 {
		pieces = append(pieces, ")")
	}
	return slices.Concat(pieces, dirPieces(o.Dirs), selPieces(o.Sels))
}

func placeless(s string) ([]impl.Token, impl.Fault) {
	tokens, fault := impl.TokensOf(s)
	for i := range tokens {
		tokens[i].At = 0
	}
	return tokens, fault
}

func wantSameTokens(t *testing.T, s string, pieces []string) {
	t.Helper()
	want, _ := placeless(strings.Join(pieces, " "))
	got, fault := placeless(s)
	if fault.Code != 0 || len(got) == 0 || !slices.Equal(got, want) {
		t.Errorf("TokensOf(%.300q) are not those of %.300q", s, pieces)
	}
}

func TestOpsLimits(t *testing.T) {
	if got := [...]int{impl.OpQuery, impl.OpMutation, impl.OpSubscription}; got != [...]int{1, 2, 3} {
		t.Errorf("%v", got)
	}
	// The constants are numbers, of no type of their own.
	if got := [...]any{int8(impl.OpQuery), uint(impl.OpMutation), float64(impl.OpSubscription), impl.Op{Kind: impl.OpMutation}.Kind}; got != [...]any{int8(1), uint(2), float64(3), 2} {
		t.Errorf("%v", got)
	}
}

func TestRightQuestionsHaveATextThatIsTheirs(t *testing.T) {
	ops := manyOps()
	if len(ops) < 6000 {
		t.Fatalf("%d questions", len(ops))
	}
	kinds := map[int]int{}
	for _, o := range ops {
		kinds[o.Kind]++
		wantRightOp(t, o)
		text, short := impl.OpText(o), impl.OpText(question(impl.OpQuery, "", o.Sels...))
		if text != short && !strings.HasSuffix(text, " "+short) {
			t.Errorf("%.300q ends otherwise than %.300q", text, short)
		}
		if text != short {
			wantSameTokens(t, text, opPieces(o))
		}
		wantSels(t, short, o.Sels...)
	}
	if kinds[1] < 1000 || kinds[2] < 1000 || kinds[3] < 1000 {
		t.Errorf("%v", kinds)
	}
}

func TestRightPiecesHaveATextThatIsTheirs(t *testing.T) {
	dirs := manyDirs()
	for i, sels := range manySels() {
		f := piece(selNames[i%len(selNames)], selNames[(i/5)%len(selNames)], sels...)
		if f.Name == "on" {
			f.Name = "onn"
		}
		wantRightFrag(t, f)
		f.Dirs = dirs[i%len(dirs)]
		wantRightFrag(t, f)
		wantSameTokens(t, impl.FragText(f), slices.Concat([]string{"fragment", f.Name, "on", f.On}, dirPieces(f.Dirs), selPieces(f.Sels)))
	}
	for _, list := range dirs {
		wantRightFrag(t, steeredPiece(piece("F", "T", field("b")), list...))
	}
}

func TestRightVariablesHaveATextThatIsTheirs(t *testing.T) {
	vars := manyVars()
	for i, v := range vars {
		wantRightVar(t, v)
		wantRightOp(t, filled(question(1+i%3, selNames[i%len(selNames)], field("b")), vars[max(0, i-i%9):i+1]...))
	}
	for many := range 60 {
		wantRightOp(t, filled(question(1+many%3, "", field("b")), vars[many:2*many]...))
	}
	wantRightOp(t, filled(question(2, "", field("b")), vars...))
}

func TestQuestionsWrittenOut(t *testing.T) {
	b := field("b")
	limit := defaulted(variable("limit", typ("Int", "!")), handedOne)
	names := variable("names", typ("String", "!]!"))
	nothing := defaulted(variable("x", typ("Point", "]]"), dir("d"), dir("e", arg("f", handedText))), objectOf("u v", listOf(), val(impl.VlWord, "null")))
	for _, one := range []struct {
		o    impl.Op
		text string
	}{
		{question(1, "", b), "{\n  b\n}\n"},
		{question(2, "", b), "mutation {\n  b\n}\n"},
		{question(3, "", b), "subscription {\n  b\n}\n"},
		{question(1, "Q", b), "query Q {\n  b\n}\n"},
		{question(2, "Q", b), "mutation Q {\n  b\n}\n"},
		{question(3, "Q", b), "subscription Q {\n  b\n}\n"},
		{filled(question(1, "", b), plainVar), "query($a: Int) {\n  b\n}\n"},
		{filled(question(2, "", b), plainVar), "mutation($a: Int) {\n  b\n}\n"},
		{filled(question(3, "", b), plainVar), "subscription($a: Int) {\n  b\n}\n"},
		{steered(question(1, "", b), dir("d")), "query @d {\n  b\n}\n"},
		{steered(question(2, "", b), dir("d")), "mutation @d {\n  b\n}\n"},
		{steered(question(3, "", b), dir("d")), "subscription @d {\n  b\n}\n"},
		{filled(question(1, "Q", b), plainVar), "query Q($a: Int) {\n  b\n}\n"},
		{steered(question(1, "Q", b), dir("d")), "query Q @d {\n  b\n}\n"},
		{steered(filled(question(1, "", b), plainVar), dir("d")), "query($a: Int) @d {\n  b\n}\n"},
		{steered(filled(question(1, "Q", b), plainVar), dir("d")), "query Q($a: Int) @d {\n  b\n}\n"},
		{filled(question(1, "", b), limit), "query($limit: Int! = 1) {\n  b\n}\n"},
		{filled(question(1, "", b), names), "query($names: [String!]!) {\n  b\n}\n"},
		{filled(question(1, "", b), nothing), "query($x: [[Point]] = {u: [], v: null} @d @e(f: \"a\\n\\\"é\\\"\")) {\n  b\n}\n"},
		{filled(question(2, "Q", b), limit, names), "mutation Q($limit: Int! = 1, $names: [String!]!) {\n  b\n}\n"},
		{filled(question(3, "Q", b), names, limit, nothing), "subscription Q($names: [String!]!, $limit: Int! = 1, $x: [[Point]] = {u: [], v: null} @d @e(f: \"a\\n\\\"é\\\"\")) {\n  b\n}\n"},
		{filled(question(1, "", b), plainVar, plainVar), "query($a: Int, $a: Int) {\n  b\n}\n"},
		{filled(question(1, "", b), variable("a", typ("Int", ""), dir("d"), dir("d"))), "query($a: Int @d @d) {\n  b\n}\n"},
		{steered(question(1, "", b), dir("skip", arg("if", handedVar)), dir("e")), "query @skip(if: $v) @e {\n  b\n}\n"},
		{question(1, "", b, field("c"), spread("d")), "{\n  b\n  c\n  ...d\n}\n"},
		{question(1, "Q", field("b", field("c", field("d")), spread("e")), inline("T", b)), "query Q {\n  b {\n    c {\n      d\n    }\n    ...e\n  }\n  ... on T {\n    b\n  }\n}\n"},
		{question(1, "query", field("query")), "query query {\n  query\n}\n"},
		{question(1, "on", b), "query on {\n  b\n}\n"},
		{question(2, "true", b), "mutation true {\n  b\n}\n"},
		{filled(question(1, "null", b), variable("null", typ("null", ""))), "query null($null: null) {\n  b\n}\n"},
	} {
		wantOp(t, one.text, one.o)
		if got := opOracle(one.o); got != one.text {
			t.Errorf("by the chapter's words: %q, not %q", got, one.text)
		}
	}
}

func TestPiecesWrittenOut(t *testing.T) {
	b := field("b")
	for _, one := range []struct {
		f    impl.Frag
		text string
	}{
		{piece("F", "T", b), "fragment F on T {\n  b\n}\n"},
		{steeredPiece(piece("F", "T", b), dir("d")), "fragment F on T @d {\n  b\n}\n"},
		{steeredPiece(piece("F", "T", b), dir("d", arg("e", handedVar), arg("f", handedOne)), dir("g")), "fragment F on T @d(e: $v, f: 1) @g {\n  b\n}\n"},
		{piece("F", "on", b), "fragment F on on {\n  b\n}\n"},
		{piece("fragment", "fragment", b), "fragment fragment on fragment {\n  b\n}\n"},
		{piece("F", "F", spread("F")), "fragment F on F {\n  ...F\n}\n"},
		{piece("F", "T", b, inline("", field("c", b)), spread("G")), "fragment F on T {\n  b\n  ... {\n    c {\n      b\n    }\n  }\n  ...G\n}\n"},
	} {
		wantFrag(t, one.text, one.f)
		if got := fragOracle(one.f); got != one.text {
			t.Errorf("by the chapter's words: %q, not %q", got, one.text)
		}
	}
}

// One of Name, Vars and Dirs makes the long form, and so does any other kind.
func TestTheShortForm(t *testing.T) {
	short := 0
	for kind, word := range wordKinds {
		for _, name := range []string{"", "Q"} {
			for _, vars := range [][]impl.VarDef{nil, {}, make([]impl.VarDef, 0, 3), {plainVar}, {plainVar, plainVar}} {
				for _, dirs := range [][]impl.Dir{nil, {}, make([]impl.Dir, 0, 3), oneDir, manyDir} {
					o := steered(filled(question(kind, name, field("b", field("c"))), vars...), dirs...)
					wantRightOp(t, o)
					text := impl.OpText(o)
					if text == "{\n  b {\n    c\n  }\n}\n" {
						short++
						if kind != impl.OpQuery || name != "" || len(vars) > 0 || len(dirs) > 0 {
							t.Errorf("%s has the short form", shownOp(o))
						}
					} else if !strings.HasPrefix(text, word) || !strings.HasSuffix(text, " {\n  b {\n    c\n  }\n}\n") {
						t.Errorf("OpText(%s): %q", shownOp(o), text)
					}
				}
			}
		}
	}
	if short != 9 {
		t.Errorf("%d have the short form", short)
	}
	// The short form is only for what is right.
	for _, o := range []impl.Op{question(1, ""), question(0, "", field("b")), question(4, "", field("b")), question(1, "", field("")), question(1, "", spread("on")), question(1, " ", field("b"))} {
		wantOp(t, "", o)
	}
}

func TestWordsOfKinds(t *testing.T) {
	for kind := -300; kind <= 300; kind++ {
		if got := impl.OpWord(kind); got != wordKinds[kind] {
			t.Errorf("OpWord(%d): %q", kind, got)
		}
	}
	if got := impl.OpWord(impl.OpQuery) + impl.OpWord(impl.OpMutation) + impl.OpWord(impl.OpSubscription); got != "querymutationsubscription" {
		t.Errorf("%q", got)
	}
	for _, kind := range noOpKinds {
		if got := impl.OpWord(kind); got != "" {
			t.Errorf("OpWord(%d): %q", kind, got)
		}
	}
}

func TestKindsOfQuestionsThatAreNone(t *testing.T) {
	for _, kind := range noOpKinds {
		for _, o := range []impl.Op{question(kind, "", field("b")), question(kind, "Q", field("b")), filled(question(kind, "", field("b")), plainVar), steered(question(kind, "", field("b")), oneDir...), steered(filled(question(kind, "Q", field("b")), plainVar), oneDir...), question(kind, "")} {
			wantOp(t, "", o)
		}
	}
}

func TestZeroValuesOfQuestions(t *testing.T) {
	wantVarDefOk(t, impl.VarDef{}, false)
	wantWrongVar(t, impl.VarDef{})
	wantOp(t, "", impl.Op{})
	wantFrag(t, "", impl.Frag{})
	// Each part that has to be there is missed by itself.
	wantOp(t, "", impl.Op{Kind: impl.OpQuery})
	wantOp(t, "", impl.Op{Sels: []impl.Sel{field("b")}})
	wantOp(t, "{\n  b\n}\n", impl.Op{Kind: impl.OpQuery, Sels: []impl.Sel{field("b")}})
	wantOp(t, "", impl.Op{Kind: impl.OpQuery, Sels: []impl.Sel{{}}})
	wantOp(t, "", impl.Op{Kind: impl.OpQuery, Vars: []impl.VarDef{{}}, Sels: []impl.Sel{field("b")}})
	wantOp(t, "", impl.Op{Kind: impl.OpQuery, Dirs: []impl.Dir{{}}, Sels: []impl.Sel{field("b")}})
	wantFrag(t, "", impl.Frag{Name: "F"})
	wantFrag(t, "", impl.Frag{On: "T"})
	wantFrag(t, "", impl.Frag{Name: "F", On: "T"})
	wantFrag(t, "", impl.Frag{Name: "F", Sels: []impl.Sel{field("b")}})
	wantFrag(t, "", impl.Frag{On: "T", Sels: []impl.Sel{field("b")}})
	wantFrag(t, "", impl.Frag{Name: "F", On: "T", Sels: []impl.Sel{{}}})
	wantFrag(t, "", impl.Frag{Name: "F", On: "T", Dirs: []impl.Dir{{}}, Sels: []impl.Sel{field("b")}})
	wantWrongVar(t, impl.VarDef{Name: "a"})
	wantWrongVar(t, impl.VarDef{Type: typ("Int", "")})
	wantWrongVar(t, impl.VarDef{Name: "a", Type: typ("Int", ""), Dirs: []impl.Dir{{}}})
	wantVar(t, "$a: Int", impl.VarDef{Name: "a", Type: typ("Int", ""), Dirs: []impl.Dir{}, Default: impl.Value{Items: []impl.Value{}, Names: []string{}}})
}

func TestNamesOfQuestions(t *testing.T) {
	for _, name := range selNames {
		wantVar(t, "$"+name+": Int", variable(name, typ("Int", "")))
		wantFragRight(t, name != "on", piece(name, "T", field("b")))
		wantFrag(t, "fragment F on "+name+" {\n  b\n}\n", piece("F", name, field("b")))
		for kind, word := range wordKinds {
			wantOp(t, word+" "+name+" {\n  b\n}\n", question(kind, name, field("b")))
		}
	}
	for _, name := range wrongName {
		wantWrongVar(t, variable(name, typ("Int", "")))
		wantWrongVar(t, defaulted(variable(name, typ("Int", ""), oneDir...), handedOne))
		wantFrag(t, "", piece(name, "T", field("b")))
		wantFrag(t, "", piece("F", name, field("b")))
		wantFrag(t, "", piece(name, name, field("b")))
		for kind := range wordKinds {
			wantOp(t, "", question(kind, name, field("b")))
			wantOp(t, "", steered(filled(question(kind, name, field("b")), plainVar), oneDir...))
		}
	}
	// An empty Name is none: a question may be without one, the others may not.
	wantWrongVar(t, variable("", typ("Int", "")))
	wantFrag(t, "", piece("", "T", field("b")))
	wantFrag(t, "", piece("F", "", field("b")))
	wantFrag(t, "", piece("", "", field("b")))
	for b := range 256 {
		for _, name := range []string{string([]byte{byte(b)}), string([]byte{'a', byte(b)}), string([]byte{byte(b), 'a'})} {
			wantVarDefOk(t, variable(name, typ("Int", "")), nameOracle(name))
			wantOp(t, opOracle(question(1, name, field("b"))), question(1, name, field("b")))
			wantFrag(t, fragOracle(piece(name, "T", field("b"))), piece(name, "T", field("b")))
			wantFrag(t, fragOracle(piece("F", name, field("b"))), piece("F", name, field("b")))
		}
	}
}

func TestOnIsNoNameOfAPiece(t *testing.T) {
	wantFrag(t, "", piece("on", "T", field("b")))
	wantFrag(t, "", piece("on", "on", field("b")))
	wantFrag(t, "", steeredPiece(piece("on", "T", field("b")), oneDir...))
	for _, name := range []string{"On", "ON", "oN", "onn", "on_", "_on", "o", "n"} {
		wantFrag(t, "fragment "+name+" on on {\n  b\n}\n", piece(name, "on", field("b")))
	}
	for kind, word := range wordKinds {
		wantOp(t, word+" on($on: on = on @on) @on {\n  on\n}\n", steered(filled(question(kind, "on", field("on")), defaulted(variable("on", typ("on", ""), dir("on")), val(impl.VlEnum, "on"))), dir("on")))
	}
}

func TestTypesOfVariables(t *testing.T) {
	for _, wraps := range allRightWraps() {
		wantRightVar(t, variable("a", typ("T", wraps)))
	}
	wantVar(t, "$a: [[[[[[[[T]]]]]]]]", variable("a", typ("T", "]]]]]]]]")))
	wantVar(t, "$a: [[[[T!]!]!]!]", variable("a", typ("T", "!]!]!]!]")))
	for _, x := range []impl.Type{{}, typ("", "!"), typ("", "]"), typ("1", ""), typ("a b", ""), typ("T!", ""), typ("[T]", ""), typ(" T", ""), typ(tooLongName, ""), typ("T", "!!"), typ("T", "]!!"), typ("T", "!]!!]"), typ("T", "["), typ("T", " "), typ("T", "!a"), typ("T", "]]]]]]]]]"), typ("T", "]]]]]]]]!"), typ("T", "!]!]!]!]!"), typ("T", "!\n"), typ("T", "\xff"), typ("T", "\x00")} {
		wantWrongVar(t, variable("a", x))
		wantWrongVar(t, defaulted(variable("a", x, oneDir...), handedOne))
	}
	for _, name := range wrongName {
		wantWrongVar(t, variable("a", typ(name, "")))
	}
	eachText([]string{"]", "!", "[", " "}, 4, func(wraps string) {
		wantVarAsOracle(t, variable("a", typ("T", wraps)))
	})
}

func TestDefaultsOfVariables(t *testing.T) {
	a := variable("a", typ("Int", ""))
	wantVar(t, "$a: Int = 1", defaulted(a, handedOne))
	wantVar(t, "$a: Int = null", defaulted(a, val(impl.VlWord, "null")))
	wantVar(t, "$a: Int = \"\"", defaulted(a, val(impl.VlString, "")))
	wantVar(t, "$a: Int = []", defaulted(a, listOf()))
	wantVar(t, "$a: Int = {}", defaulted(a, objectOf("")))
	wantVar(t, "$a: Int = RED", defaulted(a, val(impl.VlEnum, "RED")))
	wantVar(t, "$a: Int = -1.5e3", defaulted(a, val(impl.VlFloat, "-1.5e3")))
	wantVar(t, "$a: Int! = [1, {b: \"$c\"}]", defaulted(variable("a", typ("Int", "!")), listOf(handedOne, objectOf("b", val(impl.VlString, "$c")))))
	for _, v := range manyRight() {
		wantVarDefOk(t, defaulted(a, v), len(varsOracle(v)) == 0)
		// The same ones without Has are not the empty one.
		wantVarDefOk(t, impl.VarDef{Name: "a", Type: a.Type, Default: v}, false)
	}
	// Right, but not const.
	for _, wrap := range allWraps {
		for times := range 10 {
			wantWrongVar(t, defaulted(a, within(handedVar, times, wrap)))
			wantWrongVar(t, defaulted(a, within(handedVar, times, inList, wrap)))
		}
	}
	// Not right at all.
	for _, v := range []impl.Value{{}, val(0, "a"), val(9, ""), val(-1, "1"), val(impl.VlInt, ""), val(impl.VlInt, "01"), val(impl.VlFloat, "1"), val(impl.VlString, "\xff"), val(impl.VlString, strings.Repeat("a", 201)), val(impl.VlWord, "True"), val(impl.VlEnum, "null"), val(impl.VlVar, ""), val(impl.VlList, "a"), listOf(impl.Value{}), listOf(handedOne, val(impl.VlInt, "x")), objectOf("a"), objectOf("1", handedOne), within(listOf(), 10, inList), within(handedOne, 11, inObject), {Kind: impl.VlInt, Text: "1", Items: []impl.Value{handedOne}}, {Kind: impl.VlInt, Text: "1", Names: []string{"a"}}} {
		wantWrongVar(t, defaulted(a, v))
	}
	wantVar(t, "$a: Int = "+strings.Repeat("[", 10)+strings.Repeat("]", 10), defaulted(a, within(listOf(), 9, inList)))
	// One field of what is not there is enough for it not to be the empty one.
	for _, v := range []impl.Value{{Kind: 1}, {Kind: 2}, {Kind: 7}, {Kind: 8}, {Kind: 9}, {Kind: -1}, {Kind: math.MinInt}, {Kind: math.MaxInt}, {Kind: 1 << 32}, {Text: "a"}, {Text: " "}, {Text: "\x00"}, {Text: "\xff"}, {Items: []impl.Value{{}}}, {Items: []impl.Value{handedOne}}, {Names: []string{""}}, {Names: []string{"a"}}, {Items: []impl.Value{{}, {}}, Names: []string{"", ""}}} {
		for _, dirs := range [][]impl.Dir{nil, oneDir} {
			wantWrongVar(t, impl.VarDef{Name: "a", Type: a.Type, Default: v, Dirs: dirs})
			wantVarAsOracle(t, impl.VarDef{Name: "a", Type: a.Type, Has: true, Default: v, Dirs: dirs})
		}
	}
}

// wrongAt has lists of three of which one, at each of the places, is another one.
func wrongAt[T any](wrong T, right ...T) [][]T {
	lists := [][]T{}
	for at := range right {
		list := slices.Clone(right)
		list[at] = wrong
		lists = append(lists, list)
	}
	return lists
}

func TestDirectivesOfVariablesAreConst(t *testing.T) {
	a := variable("a", typ("Int", ""))
	args := []impl.Arg{arg("a", handedOne), arg("b", listOf(objectOf("c", handedText))), arg("d", objectOf(""))}
	dirs := []impl.Dir{dir("a", args...), dir("b", args...), dir("c", args...)}
	wantRightVar(t, variable("a", a.Type, dirs...))
	values := []impl.Value{handedVar, val(impl.VlVar, "a")}
	for _, wrap := range allWraps {
		for _, times := range []int{1, 2, 9} {
			values = append(values, within(handedVar, times, wrap), within(handedVar, times, wrap, inObject))
		}
	}
	values = append(values, within(handedVar, 10, inList), within(handedVar, 10, inObject, inList))
	for _, value := range values {
		for _, changed := range wrongAt(arg("e", value), args...) {
			for _, list := range append(wrongAt(dir("f", changed...), dirs...), []impl.Dir{dir("f", changed...)}) {
				// With variables in them they are right directives, but not those of a variable.
				right := impl.DirsOk(list)
				if _, _, ok := valueOracle(value); ok != right {
					t.Fatalf("%.300s is taken for right", shownDirs(list))
				}
				wantWrongVar(t, variable("a", a.Type, list...))
				wantWrongVar(t, defaulted(variable("a", a.Type, list...), handedOne))
			}
		}
		list := []impl.Dir{dir("f", arg("e", value))}
		wantDirsEverywhere(t, impl.DirsOk(list), list...)
	}
	// A text that has the sign of a variable in it is none.
	wantVar(t, "$a: Int @d(e: \"$v\")", variable("a", a.Type, dir("d", arg("e", val(impl.VlString, "$v")))))
}

func TestDirectivesThatAreNotRight(t *testing.T) {
	args := []impl.Arg{arg("a", handedOne), arg("b", listOf()), arg("c", handedText)}
	dirs := []impl.Dir{dir("a", args...), dir("b"), dir("c", arg("d", handedOne))}
	wantDirsEverywhere(t, true, dirs...)
	wrong := []impl.Dir{{}, dir(""), dir("1"), dir("a b"), dir("@a"), dir(tooLongName), dir("", args...)}
	for _, bad := range []impl.Arg{{}, arg("", handedOne), arg("1", handedOne), arg("a", impl.Value{}), arg("a", val(impl.VlInt, "01")), arg("a", within(listOf(), 10, inList)), arg("a", listOf(val(impl.VlEnum, "true"))), arg("a", val(9, "")), arg("a", val(impl.VlVar, "1"))} {
		for _, changed := range append(wrongAt(bad, args...), []impl.Arg{bad}) {
			wrong = append(wrong, dir("e", changed...))
		}
	}
	for _, one := range wrong {
		for _, list := range append(wrongAt(one, dirs...), []impl.Dir{one}) {
			wantDirsEverywhere(t, false, list...)
			wantWrongVar(t, variable("a", typ("Int", ""), list...))
			wantWrongVar(t, defaulted(variable("a", typ("Int", ""), list...), handedOne))
		}
	}
}

// What is handed to directives of a question or piece may be variables: only those of a variable may not.
func TestDirectivesOfQuestionsMayHaveVariables(t *testing.T) {
	for i, list := range manyDirs() {
		wantRightOp(t, steered(question(1+i%3, "", field("b")), list...))
		wantRightFrag(t, steeredPiece(piece("F", "T", field("b")), list...))
		wantVarDefOk(t, variable("a", typ("Int", ""), list...), constOracle(list))
	}
	wantDirsEverywhere(t, true, dir("a", arg("b", handedVar)))
	wantDirsEverywhere(t, true, dir("a"), dir("a", arg("b", handedOne), arg("b", within(handedVar, 10, inList))), dir("a"))
	wantSelsEverywhere(t, true, directed(given(field("a"), manyGiven...), manyDir...))
	wantOp(t, "query Q($a: Int = 1) @d(e: $a) {\n  b(c: $a) @d(e: $a)\n}\n", steered(filled(question(1, "Q", directed(given(field("b"), arg("c", val(impl.VlVar, "a"))), dir("d", arg("e", val(impl.VlVar, "a"))))), defaulted(plainVar, handedOne)), dir("d", arg("e", val(impl.VlVar, "a")))))
}

func TestVariablesOfWhichOneIsWrong(t *testing.T) {
	right := []impl.VarDef{plainVar, defaulted(variable("b", typ("Int", "]!"), oneDir...), listOf(handedOne)), variable("c", typ("T", ""))}
	for kind := range wordKinds {
		wantRightOp(t, filled(question(kind, "", field("b")), right...))
	}
	for _, wrong := range []impl.VarDef{{}, variable("", typ("Int", "")), variable("a", impl.Type{}), variable("a", typ("Int", "!!")), variable("a", typ("Int", ""), impl.Dir{}), variable("a", typ("Int", ""), dir("d", arg("e", handedVar))), defaulted(plainVar, handedVar), defaulted(plainVar, impl.Value{}), {Name: "a", Type: typ("Int", ""), Default: handedOne}, {Name: "a", Type: typ("Int", ""), Has: true}} {
		for kind := range wordKinds {
			for _, list := range wrongAt(wrong, right...) {
				wantOp(t, "", filled(question(kind, "", field("b")), list...))
				wantOp(t, "", filled(question(kind, "Q", field("b")), list...))
			}
			wantOp(t, "", filled(question(kind, "", field("b")), append(slices.Repeat(right, 50), wrong)...))
		}
		wantWrongVar(t, wrong)
	}
}

// Every mix of parts, right or not, each part in several ways.
func TestEveryMixOfPartsOfQuestions(t *testing.T) {
	right := 0
	for kind := -1; kind <= 5; kind++ {
		for _, name := range []string{"", "Q", "on", "1"} {
			for _, vars := range [][]impl.VarDef{nil, {}, {plainVar}, {plainVar, defaulted(variable("b", typ("T", "!"), oneDir...), handedOne)}, {{}}, {plainVar, defaulted(plainVar, handedVar)}} {
				for _, dirs := range [][]impl.Dir{nil, {}, oneDir, manyDir, {{}}} {
					for _, sels := range [][]impl.Sel{nil, {}, {field("s")}, {field("s"), spread("t"), inline("", field("u"))}, {{}}} {
						o := impl.Op{Kind: kind, Name: name, Vars: vars, Dirs: dirs, Sels: sels}
						text := opOracle(o)
						wantOp(t, text, o)
						if text != "" {
							right++
						}
					}
				}
			}
		}
	}
	if right != 3*3*4*4*2 {
		t.Errorf("%d right questions", right)
	}
}

func TestEveryMixOfPartsOfPieces(t *testing.T) {
	right := 0
	names := []string{"", "F", "on", "1", "true", "a b"}
	for _, name := range names {
		for _, on := range names {
			for _, dirs := range [][]impl.Dir{nil, {}, oneDir, manyDir, {{}}} {
				for _, sels := range [][]impl.Sel{nil, {}, {field("s")}, {field("s"), spread("t"), inline("", field("u"))}, {{}}} {
					f := impl.Frag{Name: name, On: on, Dirs: dirs, Sels: sels}
					text := fragOracle(f)
					wantFrag(t, text, f)
					if text != "" {
						right++
					}
				}
			}
		}
	}
	if right != 2*3*4*2 {
		t.Errorf("%d right pieces", right)
	}
}

func TestEveryMixOfPartsOfVariables(t *testing.T) {
	right := 0
	for _, name := range []string{"", "a", "on", "1"} {
		for _, x := range []impl.Type{{}, typ("T", ""), typ("T", "!]!"), typ("T", "!!"), typ("1", "")} {
			for _, has := range []bool{false, true} {
				for _, value := range []impl.Value{{}, {Items: []impl.Value{}, Names: []string{}}, handedOne, handedVar, listOf(handedVar), listOf(), {Text: "a"}, {Kind: 9}, val(impl.VlInt, "01")} {
					for _, dirs := range [][]impl.Dir{nil, {}, oneDir, {dir("d", arg("e", handedOne))}, {dir("d", arg("e", handedVar))}, {{}}} {
						v := impl.VarDef{Name: name, Type: x, Has: has, Default: value, Dirs: dirs}
						wantVarAsOracle(t, v)
						if impl.VarDefOk(v) {
							right++
						}
					}
				}
			}
		}
	}
	if right != 2*2*(2+2)*4 {
		t.Errorf("%d right variables", right)
	}
}

func TestSelectionsOfQuestions(t *testing.T) {
	right := []impl.Sel{field("a"), spread("b", dir("c")), inline("D", field("e"))}
	wantSelsEverywhere(t, true, right...)
	wantSelsEverywhere(t, false)
	for kind := range wordKinds {
		for _, none := range [][]impl.Sel{nil, {}, make([]impl.Sel, 0, 3)} {
			wantOp(t, "", impl.Op{Kind: kind, Sels: none})
			wantOp(t, "", impl.Op{Kind: kind, Name: "Q", Vars: []impl.VarDef{plainVar}, Dirs: oneDir, Sels: none})
			wantFrag(t, "", impl.Frag{Name: "F", On: "T", Sels: none})
			wantFrag(t, "", impl.Frag{Name: "F", On: "T", Dirs: oneDir, Sels: none})
		}
	}
	for _, wrong := range []impl.Sel{{}, field(""), field("1"), spread("on"), spread(""), inline(""), inline("A"), aliased("1", field("a")), aliased("a", spread("b")), field("a", impl.Sel{}), inline("", field("a"), field("")), given(field("a"), impl.Arg{}), given(field("a"), arg("b", val(impl.VlInt, "x"))), directed(field("a"), impl.Dir{}), {Kind: 4, Name: "a"}, {Kind: impl.SlField, Name: "a", On: "T"}, chain(field("z"), 11, inField)} {
		wantSelsEverywhere(t, false, wrong)
		for _, list := range wrongAt(wrong, right...) {
			wantSelsEverywhere(t, false, list...)
		}
		wantSelsEverywhere(t, false, append(slices.Repeat(right, 20), wrong)...)
	}
}

func TestAsManySelectionsAsAQuestionMayHave(t *testing.T) {
	b := field("b")
	for many := 110; many <= 130; many++ {
		right := many <= 120
		beside := slices.Repeat([]impl.Sel{b}, many)
		wantSelsEverywhere(t, right, beside...)
		wantSelsEverywhere(t, right, slices.Repeat([]impl.Sel{spread("s")}, many)...)
		// Each one of these is right by itself.
		wantSelsEverywhere(t, right, field("a", beside[:59]...), inline("", beside[:many-61]...))
		wantSelsEverywhere(t, right, field("a", beside[:many-2]...), b)
		wantSelsEverywhere(t, right, b, field("a", beside[:many-2]...))
		wantSelsEverywhere(t, right, append(slices.Repeat([]impl.Sel{field("a", inline("", spread("c")))}, 30), beside[:many-90]...)...)
		wantSelsEverywhere(t, right, append(beside[:many-10:many-10], chain(b, 10, inField, inInline))...)
		for _, s := range manyShapes(many) {
			wantSelsEverywhere(t, right, s)
			wantSelsEverywhere(t, many < 120, s, b)
			wantSelsEverywhere(t, many < 120, b, s)
			wantSelsEverywhere(t, many < 119, spread("s"), s, b)
		}
	}
	for _, s := range manyShapes(120) {
		wantSelsEverywhere(t, false, s, s)
	}
	wantOp(t, "{\n"+strings.Repeat("  b\n", 120)+"}\n", question(1, "", slices.Repeat([]impl.Sel{b}, 120)...))
	wantOp(t, "", question(1, "", slices.Repeat([]impl.Sel{b}, 121)...))
	wantSelsEverywhere(t, false, slices.Repeat([]impl.Sel{b}, 5000)...)
	wantFrag(t, "fragment F on T {\n  a {\n"+strings.Repeat("    b\n", 119)+"  }\n}\n", piece("F", "T", field("a", slices.Repeat([]impl.Sel{b}, 119)...)))
	wantFrag(t, "", piece("F", "T", field("a", slices.Repeat([]impl.Sel{b}, 120)...)))
	// Nothing else is counted: there may be more variables, directives and Args than that.
	vars, dirs, args := slices.Repeat([]impl.VarDef{plainVar}, 500), slices.Repeat([]impl.Dir{dir("d")}, 500), slices.Repeat([]impl.Arg{arg("e", handedOne)}, 500)
	o := filled(steered(question(2, "", given(directed(b, dirs...), args...)), dirs...), vars...)
	wantRightOp(t, o)
	wantOp(t, "mutation("+strings.Repeat("$a: Int, ", 499)+"$a: Int)"+strings.Repeat(" @d", 500)+" {\n  b("+strings.Repeat("e: 1, ", 499)+"e: 1)"+strings.Repeat(" @d", 500)+"\n}\n", o)
	wantRightFrag(t, steeredPiece(piece("F", "T", given(b, args...)), dirs...))
	wantRightVar(t, variable("a", typ("Int", ""), dirs...))
	wantRightVar(t, variable("a", typ("Int", ""), dir("d", args...)))
	wantRightVar(t, defaulted(plainVar, listOf(slices.Repeat([]impl.Value{handedOne}, 500)...)))
}

func TestHowDeepSelectionsOfQuestionsMayBe(t *testing.T) {
	for _, ways := range selWays {
		for many := 1; many <= 13; many++ {
			for _, last := range []impl.Sel{field("z"), spread("z"), given(aliased("y", field("z")), oneGiven...)} {
				s := chain(last, many, ways...)
				right, _, _ := selOracle(s)
				wantSelsEverywhere(t, right, s)
				wantSelsEverywhere(t, right, field("b"), s)
			}
		}
	}
	text := "{\n"
	for deep := range 9 {
		text += strings.Repeat("  ", deep+1) + "a {\n"
	}
	text += strings.Repeat("  ", 10) + "z\n"
	for deep := range 9 {
		text += strings.Repeat("  ", 9-deep) + "}\n"
	}
	ten := chain(field("z"), 10, inField)
	for kind, word := range wordKinds {
		wantOp(t, word+" Q "+text+"}\n", question(kind, "Q", ten))
	}
	wantOp(t, text+"}\n", question(1, "", ten))
	wantOp(t, text+text[2:]+"}\n", question(1, "", ten, ten))
	wantFrag(t, "fragment F on T "+text+"}\n", piece("F", "T", ten))
	wantSelsEverywhere(t, false, chain(field("z"), 11, inField))
	wantSelsEverywhere(t, false, ten, chain(field("z"), 11, inInline), ten)
}

// Texts of right ones have no limit of their own: they may be longer than a source may be.
func TestTextsOfQuestionsMayBeLong(t *testing.T) {
	long := val(impl.VlString, strings.Repeat("\x01", 200))
	value := listOf(slices.Repeat([]impl.Value{long}, 100)...)
	shown := "[" + strings.Repeat("\""+strings.Repeat("\\u0001", 200)+"\", ", 99) + "\"" + strings.Repeat("\\u0001", 200) + "\"]"
	wantOp(t, "query($a: Int = "+shown+") {\n  b\n}\n", filled(question(1, "", field("b")), defaulted(plainVar, value)))
	wantOp(t, "query @d(e: "+shown+") {\n  b\n}\n", steered(question(1, "", field("b")), dir("d", arg("e", value))))
	wantFrag(t, "fragment F on T {\n  b(e: "+shown+")\n}\n", piece("F", "T", given(field("b"), arg("e", value))))
}

// A stack of calls that went as deep as these would be refused, and with it all tests.
func TestQuestionsDeeperThanCallsCanGo(t *testing.T) {
	defer debug.SetMaxStack(debug.SetMaxStack(256 << 10))
	ring := []impl.Value{{Kind: impl.VlList}}
	ring[0].Items = ring
	rings := []impl.Value{{Kind: impl.VlObject, Names: []string{"a", "b"}}, {Kind: impl.VlList}}
	rings[0].Items, rings[1].Items = rings, rings
	sels := []impl.Sel{inline("", field("a")), field("b")}
	sels[0].Sels = sels
	deep := chain(field("z"), 200000, inField, inInline)
	for _, value := range []impl.Value{within(handedOne, 200000, inList, inObject), within(handedVar, 200000, inList), ring[0], rings[0], rings[1]} {
		for _, v := range []impl.VarDef{defaulted(plainVar, value), {Name: "a", Type: plainVar.Type, Default: value}, variable("a", plainVar.Type, dir("d", arg("e", value))), variable("a", plainVar.Type, dir("d", arg("e", handedOne), arg("e", value)))} {
			if impl.VarDefOk(v) || impl.OpOk(filled(question(1, "", field("b")), v)) || impl.OpText(filled(question(2, "", field("b")), v)) != "" {
				t.Error("what has a very deep value is right")
			}
		}
		if o := steered(question(3, "", field("b")), dir("d", arg("e", value))); impl.OpOk(o) || impl.OpText(o) != "" {
			t.Error("what has a very deep value is right")
		}
		if f := steeredPiece(piece("F", "T", field("b")), dir("d", arg("e", value))); impl.FragOk(f) || impl.FragText(f) != "" {
			t.Error("what has a very deep value is right")
		}
	}
	for _, list := range [][]impl.Sel{{deep}, {field("b"), deep}, sels, sels[:1], {field("a", sels...)}, {field("b"), inline("T", deep)}} {
		if o := question(1, "", list...); impl.OpOk(o) || impl.OpText(o) != "" {
			t.Error("what is very deep is right")
		}
		if f := piece("F", "T", list...); impl.FragOk(f) || impl.FragText(f) != "" {
			t.Error("what is very deep is right")
		}
	}
}

// varsWithRoom is the same list, with room behind it, and behind each list in it, in which something stands already.
func varsWithRoom(list []impl.VarDef) []impl.VarDef {
	vars := []impl.VarDef{}
	for _, v := range list {
		v.Default, v.Dirs = withRoom(v.Default), dirsWithRoom(v.Dirs)
		vars = append(vars, v)
	}
	return append(vars, variable("room1", typ("Room", "")), variable("room2", typ("Room", "!")))[:len(list)]
}

func wholeOfOp(o impl.Op) string {
	text := fmt.Sprintf("%d %q %d", o.Kind, o.Name, len(o.Vars))
	for _, v := range o.Vars[:cap(o.Vars)] {
		text += fmt.Sprintf(" <%q %q %v %s %s>", v.Name, v.Type, v.Has, wholeOf(v.Default), wholeOfDirs(v.Dirs))
	}
	return text + wholeOfDirs(o.Dirs) + wholeOfSels(o.Sels)
}

func wholeOfFrag(f impl.Frag) string {
	return fmt.Sprintf("%q %q %s %s", f.Name, f.On, wholeOfDirs(f.Dirs), wholeOfSels(f.Sels))
}

func TestNothingIsWrittenIntoQuestions(t *testing.T) {
	dirs := []impl.Dir{dir("d", arg("e", listOf(handedOne, objectOf("x y", handedText, listOf(handedOne)))), arg("f", handedOne)), dir("g")}
	vars := []impl.VarDef{plainVar, defaulted(variable("b", typ("T", "]!"), dirs...), listOf(objectOf("x", handedOne), listOf())), variable("c", typ("T", ""), dirs...)}
	wrong := []impl.VarDef{plainVar, defaulted(plainVar, listOf(handedVar)), {Name: "1", Default: listOf(handedOne)}, {}}
	for _, list := range sharingLists {
		for kind := range 5 {
			for _, told := range [][]impl.VarDef{nil, vars, wrong} {
				for _, name := range []string{"", "Q", "on", "1"} {
					o := impl.Op{Kind: kind, Name: name, Vars: varsWithRoom(told), Dirs: dirsWithRoom(dirs), Sels: selsWithRoom(list)}
					f := impl.Frag{Name: name, On: "T", Dirs: dirsWithRoom(dirs), Sels: selsWithRoom(list)}
					aheadOp, aheadFrag := wholeOfOp(o), wholeOfFrag(f)
					for range 2 {
						wantOp(t, opOracle(o), o)
						wantFrag(t, fragOracle(f), f)
						for _, v := range o.Vars {
							_, right := varDefOracle(v)
							wantVarDefOk(t, v, right)
						}
					}
					if wholeOfOp(o) != aheadOp || wholeOfFrag(f) != aheadFrag {
						t.Errorf("%s has become %s, or %s has become %s", aheadOp, wholeOfOp(o), aheadFrag, wholeOfFrag(f))
					}
				}
			}
		}
	}
}

func TestQuestionsKeepNothing(t *testing.T) {
	o := steered(filled(question(2, "Q", field("b")), defaulted(plainVar, handedOne)), dir("d"))
	f := piece("F", "T", field("b"))
	for range 3 {
		wantOp(t, "mutation Q($a: Int = 1) @d {\n  b\n}\n", o)
		wantOp(t, "", filled(o, defaulted(plainVar, handedVar)))
		wantOp(t, "{\n  b\n}\n", question(1, "", field("b")))
		wantOp(t, "", question(0, "Q", field("b")))
		wantFrag(t, "fragment F on T {\n  b\n}\n", f)
		wantFrag(t, "", piece("on", "T", field("b")))
		wantVarDefOk(t, plainVar, true)
		wantVarDefOk(t, impl.VarDef{}, false)
	}
	// What was handed in may be changed behind the call: the answer does not.
	text := impl.OpText(o)
	o.Vars[0].Name, o.Dirs[0].Name, o.Sels[0].Name = "x", "y", "z"
	wantOp(t, "mutation Q($x: Int = 1) @y {\n  z\n}\n", o)
	if text != "mutation Q($a: Int = 1) @d {\n  b\n}\n" {
		t.Errorf("%q", text)
	}
}
