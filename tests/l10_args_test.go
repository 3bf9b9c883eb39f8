package tests

import (
	"fmt"
	"runtime/debug"
	"slices"
	"strings"
	"testing"

	"loop.example/g00964/impl"
)

func arg(name string, v impl.Value) impl.Arg { return impl.Arg{Name: name, Value: v} }

func dir(name string, args ...impl.Arg) impl.Dir { return impl.Dir{Name: name, Args: args} }

func nameOracle(s string) bool { return len(s) <= 30 && nameForm.MatchString(s) }

// The chapter's words, written another way, to hold the program against: what is printed, and whether it is right.
func argsOracle(list []impl.Arg) (string, bool) {
	text, right := "", true
	for _, a := range list {
		value, _, ok := valueOracle(a.Value)
		right = right && ok && nameOracle(a.Name)
		text += fmt.Sprintf(", %s: %s", a.Name, value)
	}
	if !right || text == "" {
		return "", right
	}
	return fmt.Sprintf("(%s)", text[2:]), true
}

func dirsOracle(list []impl.Dir) (string, bool) {
	text, right := "", true
	for _, d := range list {
		args, ok := argsOracle(d.Args)
		right = right && ok && nameOracle(d.Name)
		text += fmt.Sprintf(" @%s%s", d.Name, args)
	}
	if !right {
		return "", false
	}
	return text, true
}

// Two lists are the same where these are: nil and an empty list are written alike, and nothing else is.
func shownArgs(list []impl.Arg) string {
	text := fmt.Sprint(len(list))
	for _, a := range list {
		text += fmt.Sprintf(" %q %s", a.Name, shownOracle(a.Value))
	}
	return "(" + text + ")"
}

func shownDirs(list []impl.Dir) string {
	text := fmt.Sprint(len(list))
	for _, d := range list {
		text += fmt.Sprintf(" @%q%s", d.Name, shownArgs(d.Args))
	}
	return text
}

// Directives that are being put together: what has to come next, and the value that is being read, if there is one.
type dirsState struct {
	dirs     []impl.Dir
	want     string
	value    readState
	constant bool
}

func (d *dirsState) see(token impl.Token) int {
	if d.want == "value" {
		return d.seeValue(token)
	}
	form := []string{"", token.Text, "a name", "a number", "a number", "a text"}[token.Kind]
	last := len(d.dirs) - 1
	switch d.want + " " + form {
	case "directive @", "bracket or directive @":
		d.want = "name"
	case "name a name":
		d.dirs = append(d.dirs, impl.Dir{Name: token.Text})
		d.want = "bracket or directive"
	case "bracket or directive (":
		d.want = "first"
	case "first a name", "next a name":
		d.dirs[last].Args = append(d.dirs[last].Args, impl.Arg{Name: token.Text})
		d.want = "colon"
	case "colon :":
		d.want = "value"
		d.value = readState{open: []impl.Value{{}}, want: "value", constant: d.constant}
	case "next )":
		d.want = "directive"
	default:
		return 7
	}
	return 0
}

func (d *dirsState) seeValue(token impl.Token) int {
	if code := d.value.see(token); code != 0 {
		return code
	}
	if d.value.want == "nothing" {
		args := d.dirs[len(d.dirs)-1].Args
		args[len(args)-1].Value = d.value.open[0].Items[0]
		d.want = "next"
	}
	return 0
}

// Token by token, with what has to come next as a word.
func readDirsOracle(s string, constant bool) ([]impl.Dir, impl.Fault) {
	tokens, fault := tokensOracle(s)
	if fault.Code != 0 {
		return nil, fault
	}
	d := dirsState{want: "directive", constant: constant}
	for _, token := range tokens {
		if code := d.see(token); code != 0 {
			return nil, impl.Fault{Code: code, At: token.At}
		}
	}
	if !strings.HasSuffix(d.want, "directive") {
		return nil, impl.Fault{Code: 7, At: len(s)}
	}
	return d.dirs, impl.Fault{}
}

func wantDirsAs(t *testing.T, s string, constant bool, want []impl.Dir, wrong impl.Fault) {
	t.Helper()
	if got, fault := impl.ReadDirs(s, constant); fault != wrong || shownDirs(got) != shownDirs(want) {
		t.Errorf("ReadDirs(%.300q, %v): %.300s, %v, want %.300s, %v", s, constant, shownDirs(got), fault, shownDirs(want), wrong)
	}
}

func wantDirsAsOracle(t *testing.T, s string) {
	t.Helper()
	for _, constant := range []bool{false, true} {
		dirs, fault := readDirsOracle(s, constant)
		wantDirsAs(t, s, constant, dirs, fault)
	}
}

// wantDirs is for texts that are directives; those with variables are none where constant is true.
func wantDirs(t *testing.T, s string, want ...impl.Dir) {
	t.Helper()
	wantDirsAs(t, s, false, want, impl.Fault{})
	for _, d := range want {
		for _, a := range d.Args {
			if len(varsOracle(a.Value)) > 0 {
				return
			}
		}
	}
	wantDirsAs(t, s, true, want, impl.Fault{})
}

// wantNoDirs is for texts that are none; a `$` in them may be the fault where constant is true.
func wantNoDirs(t *testing.T, s string, code int, at int) {
	t.Helper()
	wantDirsAs(t, s, false, nil, impl.Fault{Code: code, At: at})
	if !strings.Contains(s, "$") {
		wantDirsAs(t, s, true, nil, impl.Fault{Code: code, At: at})
	}
}

func wantDirsNotConstant(t *testing.T, s string, at int) {
	t.Helper()
	wantDirsAs(t, s, true, nil, impl.Fault{Code: impl.FtSyntax, At: at})
}

func wantArgsText(t *testing.T, text string, list ...impl.Arg) {
	t.Helper()
	if !impl.ArgsOk(list) {
		t.Errorf("ArgsOk(%.300s) is false", shownArgs(list))
	}
	if got := impl.ArgsText(list); got != text {
		t.Errorf("ArgsText(%.300s): %.300q, want %.300q", shownArgs(list), got, text)
	}
}

func wantDirsText(t *testing.T, text string, list ...impl.Dir) {
	t.Helper()
	if !impl.DirsOk(list) {
		t.Errorf("DirsOk(%.300s) is false", shownDirs(list))
	}
	if got := impl.DirsText(list); got != text {
		t.Errorf("DirsText(%.300s): %.300q, want %.300q", shownDirs(list), got, text)
	}
}

// wantWrongArgs is for lists that are not right; they make each directive wrong that has them.
func wantWrongArgs(t *testing.T, list ...impl.Arg) {
	t.Helper()
	if impl.ArgsOk(list) {
		t.Errorf("ArgsOk(%.300s) is true", shownArgs(list))
	}
	if got := impl.ArgsText(list); got != "" {
		t.Errorf("ArgsText(%.300s): %.300q", shownArgs(list), got)
	}
	wantWrongDirs(t, dir("a", list...))
	wantWrongDirs(t, dir("a", list...), dir("b"))
	wantWrongDirs(t, dir("a"), dir("b", list...), dir("c", arg("d", val(impl.VlInt, "1"))))
	wantWrongDirs(t, dir("a"), dir("b", arg("d", val(impl.VlInt, "1"))), dir("c", list...))
}

func wantWrongDirs(t *testing.T, list ...impl.Dir) {
	t.Helper()
	if impl.DirsOk(list) {
		t.Errorf("DirsOk(%.300s) is true", shownDirs(list))
	}
	if got := impl.DirsText(list); got != "" {
		t.Errorf("DirsText(%.300s): %.300q", shownDirs(list), got)
	}
}

func wantSameArgs(t *testing.T, a []impl.Arg, b []impl.Arg, want bool) {
	t.Helper()
	if impl.SameArgs(a, b) != want || impl.SameArgs(b, a) != want {
		t.Errorf("SameArgs of %.300s and %.300s is not %v", shownArgs(a), shownArgs(b), want)
	}
}

// dirPieces has the text of each token of right directives.
func dirPieces(list []impl.Dir) []string {
	pieces := []string{}
	for _, d := range list {
		pieces = append(pieces, "@", d.Name)
		for i, a := range d.Args {
			pieces = append(pieces, []string{"(", ","}[min(i, 1)], a.Name, ":")
			pieces = append(pieces, piecesOf(a.Value)...)
		}
		if len(d.Args) > 0 {
			pieces = append(pieces, ")")
		}
	}
	return pieces
}

var (
	handedOne  = val(impl.VlInt, "1")
	handedVar  = val(impl.VlVar, "v")
	handedText = val(impl.VlString, "a\n\"é\"")
	dirNames   = []string{"a", "_", "Z9_", "skip", "include", "on", "true", "false", "null", "query", "__a", "b1", longestName}
)

// manyDirs has lists of right directives: none, one and several, without and with Args of each kind of value.
func manyDirs() [][]impl.Dir {
	mixed := dir("m", arg("a", handedOne), arg("b", handedVar), arg("a", handedText), arg("true", listOf(handedVar, objectOf("x y", handedOne, listOf()))))
	lists := [][]impl.Dir{{}, {mixed}, {mixed, mixed}, {mixed, dir("a"), mixed}, {dir("a"), dir("a"), dir("b"), dir("a")}}
	for i, name := range dirNames {
		other := dirNames[(i+5)%len(dirNames)]
		lists = append(lists, []impl.Dir{dir(name)}, []impl.Dir{dir(name), dir(other)}, []impl.Dir{dir(name, arg(other, handedOne))}, []impl.Dir{dir(other, arg(name, handedVar)), dir(name)}, []impl.Dir{dir(name), dir(other, arg(name, handedText), arg(name, handedOne))})
	}
	for i, v := range manyRight() {
		name, other := dirNames[i%len(dirNames)], dirNames[(i/13)%len(dirNames)]
		lists = append(lists, []impl.Dir{dir(name, arg(other, v))})
		switch i % 4 {
		case 0:
			lists = append(lists, []impl.Dir{dir(other, arg(name, handedOne), arg(other, v))})
		case 1:
			lists = append(lists, []impl.Dir{dir("a"), dir(other, arg(name, v), arg(other, listOf()))})
		case 2:
			lists = append(lists, []impl.Dir{dir(other, arg("a", v)), dir(name, arg("b", handedVar), arg("c", v), arg("d", objectOf("")))})
		default:
			lists = append(lists, []impl.Dir{dir(name, arg("a", v), arg("a", v)), dir(other), dir(name, arg(name, v))})
		}
	}
	return lists
}

func TestRightDirectivesComeBack(t *testing.T) {
	lists := manyDirs()
	if len(lists) < 4000 {
		t.Fatalf("%d lists", len(lists))
	}
	for _, list := range lists {
		text, ok := dirsOracle(list)
		if !ok {
			t.Fatalf("%.300s is not right", shownDirs(list))
		}
		wantDirsText(t, text, list...)
		wantDirs(t, impl.DirsText(list), list...)
		wantDirsAsOracle(t, impl.DirsText(list))
		for _, d := range list {
			args, _ := argsOracle(d.Args)
			wantArgsText(t, args, d.Args...)
			wantSameArgs(t, d.Args, d.Args, true)
		}
	}
}

func TestRightDirectivesComeBackWhateverIsBetween(t *testing.T) {
	for i, list := range manyDirs() {
		pieces := dirPieces(list)
		for _, gap := range []string{" ", ",", allGaps[i%len(allGaps)], allGaps[(i/7)%len(allGaps)] + "\n"} {
			wantDirs(t, strings.Join(pieces, gap), list...)
			wantDirs(t, gap+strings.Join(pieces, gap)+gap, list...)
		}
		wantDirs(t, "\xef\xbb\xbf"+strings.Join(pieces, "\r\n")+"#)", list...)
	}
	list := []impl.Dir{dir("a"), dir("b", arg("c", handedOne), arg("d", listOf(handedVar, handedText)), arg("e", objectOf("f", handedVar))), dir("g", arg("h", val(impl.VlEnum, "i")))}
	for _, one := range allGaps {
		for _, other := range allGaps {
			text := ""
			for i, piece := range dirPieces(list) {
				text += piece + []string{one, other, one + other}[i%3]
			}
			wantDirs(t, one+text, list...)
		}
	}
}

func TestDirectivesWithNothingBetween(t *testing.T) {
	yes, x := val(impl.VlWord, "true"), val(impl.VlVar, "x")
	wantDirs(t, "@a@b@c", dir("a"), dir("b"), dir("c"))
	wantDirs(t, "@a(b:1)@c", dir("a", arg("b", handedOne)), dir("c"))
	wantDirs(t, `@a(b:"x"c:$x d:[]e:{}f:true)@g(h:[1])`, dir("a", arg("b", val(impl.VlString, "x")), arg("c", x), arg("d", listOf()), arg("e", objectOf("")), arg("f", yes)), dir("g", arg("h", listOf(handedOne))))
	wantDirs(t, "@a(b:$x c:$x)", dir("a", arg("b", x), arg("c", x)))
	wantDirs(t, "@a(b:c d:1)@e", dir("a", arg("b", val(impl.VlEnum, "c")), arg("d", handedOne)), dir("e"))
	wantDirs(t, `@a(b:"""x"""c:"")`, dir("a", arg("b", val(impl.VlString, "x")), arg("c", val(impl.VlString, ""))))
	wantDirs(t, "@a(,b,:,1,,c:1,)", dir("a", arg("b", handedOne), arg("c", handedOne)))
	wantDirs(t, ",@,a,(b:1),@c,", dir("a", arg("b", handedOne)), dir("c"))
	wantDirs(t, "@ a ( b : 1 ) @ c", dir("a", arg("b", handedOne)), dir("c"))
	wantDirs(t, "@#b\na#(c:1)\n(#)\nd:#2\n1#)\n)#@e", dir("a", arg("d", handedOne)))
}

func TestDirectivesWrittenOut(t *testing.T) {
	wantDirs(t, "@a(b: 1, c: $v) @d", dir("a", arg("b", handedOne), arg("c", handedVar)), dir("d"))
	wantDirs(t, "@skip(if: true)", dir("skip", arg("if", val(impl.VlWord, "true"))))
	wantDirs(t, `@deprecated(reason: "no\nmore")`, dir("deprecated", arg("reason", val(impl.VlString, "no\nmore"))))
	wantDirs(t, "@a(b: RED) @a(b: -1.5e3)", dir("a", arg("b", val(impl.VlEnum, "RED"))), dir("a", arg("b", val(impl.VlFloat, "-1.5e3"))))
	wantDirs(t, "@true(null: null, false: $true)", dir("true", arg("null", val(impl.VlWord, "null")), arg("false", val(impl.VlVar, "true"))))
	wantDirs(t, "@on(on: on)", dir("on", arg("on", val(impl.VlEnum, "on"))))
	wantDirs(t, "@a(b: {b: [{b: $v}]}, b: b)", dir("a", arg("b", objectOf("b", listOf(objectOf("b", handedVar)))), arg("b", val(impl.VlEnum, "b"))))
}

func TestArgsOfNothing(t *testing.T) {
	wantArgsText(t, "")
	wantDirsText(t, "")
	if !impl.ArgsOk(nil) || !impl.ArgsOk([]impl.Arg{}) || !impl.DirsOk(nil) || !impl.DirsOk([]impl.Dir{}) {
		t.Error("nothing is not right")
	}
	if impl.ArgsText(nil) != "" || impl.ArgsText([]impl.Arg{}) != "" || impl.DirsText(nil) != "" || impl.DirsText([]impl.Dir{}) != "" {
		t.Error("nothing has a text")
	}
	wantSameArgs(t, nil, nil, true)
	wantSameArgs(t, nil, []impl.Arg{}, true)
	wantSameArgs(t, []impl.Arg{}, []impl.Arg{}, true)
	wantSameArgs(t, make([]impl.Arg, 0, 5), nil, true)
	wantSameArgs(t, nil, []impl.Arg{{}}, false)
	wantSameArgs(t, nil, []impl.Arg{arg("a", handedOne)}, false)
	wantDirsText(t, " @a", impl.Dir{Name: "a"})
	wantDirsText(t, " @a", impl.Dir{Name: "a", Args: []impl.Arg{}})
}

func TestZeroValuesInLists(t *testing.T) {
	wantWrongArgs(t, impl.Arg{})
	wantWrongArgs(t, arg("", handedOne))
	wantWrongArgs(t, arg("a", impl.Value{}))
	wantWrongArgs(t, impl.Arg{}, impl.Arg{})
	wantWrongDirs(t, impl.Dir{})
	wantWrongDirs(t, impl.Dir{}, impl.Dir{})
	wantWrongDirs(t, dir("", arg("a", handedOne)))
	wantWrongDirs(t, dir("a", impl.Arg{}))
	for at := range 4 {
		args := []impl.Arg{arg("a", handedOne), arg("b", listOf()), arg("c", handedVar)}
		wantWrongArgs(t, slices.Insert(args, at, impl.Arg{})...)
		dirs := []impl.Dir{dir("a"), dir("b", arg("b", listOf())), dir("c")}
		wantWrongDirs(t, slices.Insert(dirs, at, impl.Dir{})...)
	}
	wantSameArgs(t, []impl.Arg{{}}, []impl.Arg{{}}, true)
	wantSameArgs(t, []impl.Arg{{}}, []impl.Arg{{}, {}}, false)
}

func TestNamesOfWhatIsHandedIn(t *testing.T) {
	for _, name := range dirNames {
		wantArgsText(t, "("+name+": 1)", arg(name, handedOne))
		wantArgsText(t, "("+name+": 1, "+name+": 1)", arg(name, handedOne), arg(name, handedOne))
		wantDirsText(t, " @"+name, dir(name))
		wantDirsText(t, " @"+name+" @"+name, dir(name), dir(name))
		wantDirsText(t, " @"+name+"("+name+": $"+name+")", dir(name, arg(name, val(impl.VlVar, name))))
		wantDirs(t, "@"+name, dir(name))
		wantDirs(t, "@"+name+"("+name+":$"+name+")@"+name, dir(name, arg(name, val(impl.VlVar, name))), dir(name))
	}
	if len(longestName) != impl.MaxName || len(tooLongName) != impl.MaxName+1 {
		t.Fatal("the names are not at the limit")
	}
	wantWrongArgs(t, arg(tooLongName, handedOne))
	wantWrongDirs(t, dir(tooLongName))
	wantNoDirs(t, "@"+tooLongName, impl.FtSign, 1)
	wantNoDirs(t, "@a("+tooLongName+": 1)", impl.FtSign, 3)
	wantNoDirs(t, "@a("+longestName+": "+tooLongName+")", impl.FtSign, 35)
}

func TestNamesThatAreNone(t *testing.T) {
	names := slices.Concat([]string{"", " ", "a ", " a", "1", "1a", "-", "a-b", "a.b", "a:", "a(", "@a", "$a", "é", "aé", "a\n", "a\x00", "\"a\"", "a b", ",a", "\xff", "#a", "\xef\xbb\xbfa", tooLongName, strings.Repeat("a", 12001)}, wholeTexts, otherTexts, wrongTexts, allSigns, allGaps)
	for _, name := range names {
		one := arg("a", handedOne)
		wantWrongArgs(t, arg(name, handedOne))
		wantWrongArgs(t, arg(name, handedOne), one, one)
		wantWrongArgs(t, one, arg(name, listOf()), one)
		wantWrongArgs(t, one, one, arg(name, handedVar))
		wantWrongDirs(t, dir(name))
		wantWrongDirs(t, dir(name, one))
		wantWrongDirs(t, dir(name), dir("a"), dir("a"))
		wantWrongDirs(t, dir("a"), dir(name), dir("a", one))
		wantWrongDirs(t, dir("a", one), dir("a"), dir(name))
	}
	for b := range 256 {
		for _, name := range []string{string([]byte{byte(b)}), string([]byte{'a', byte(b)}), string([]byte{byte(b), 'a'}), string([]byte{'a', byte(b), 'a'})} {
			args, dirs := []impl.Arg{arg(name, handedOne)}, []impl.Dir{dir(name)}
			if impl.ArgsOk(args) != nameOracle(name) || impl.DirsOk(dirs) != nameOracle(name) {
				t.Errorf("%q: %v, %v", name, impl.ArgsOk(args), impl.DirsOk(dirs))
			}
		}
	}
}

func TestValuesThatAreHandedIn(t *testing.T) {
	right, wrong := 0, 0
	for _, v := range slices.Concat(someValues(), []impl.Value{
		within(handedOne, 9, inList), within(handedOne, 10, inList), within(handedOne, 11, inList), within(listOf(), 9, inObject), within(listOf(), 10, inObject), within(handedVar, 10, inObject, inList), within(handedVar, 11, inObject, inList),
		val(impl.VlString, strings.Repeat("a", 200)), val(impl.VlString, strings.Repeat("a", 201)), val(impl.VlString, "\xff"), val(impl.VlVar, tooLongName), val(impl.VlInt, "01"), val(impl.VlFloat, "1"), val(impl.VlWord, "True"), val(impl.VlEnum, "null"), objectOf("a b", handedOne), objectOf("1", handedOne),
	}) {
		text, _, ok := valueOracle(v)
		if !ok {
			wrong++
			wantWrongArgs(t, arg("a", v))
			wantWrongArgs(t, arg("a", v), arg("b", handedOne), arg("c", handedVar))
			wantWrongArgs(t, arg("a", handedOne), arg("b", v), arg("c", handedVar))
			wantWrongArgs(t, arg("a", handedOne), arg("b", handedVar), arg("c", v))
			continue
		}
		right++
		wantArgsText(t, "(a: "+text+")", arg("a", v))
		wantArgsText(t, "(a: "+text+", b: 1, c: $v)", arg("a", v), arg("b", handedOne), arg("c", handedVar))
		wantArgsText(t, "(a: 1, b: "+text+", c: $v)", arg("a", handedOne), arg("b", v), arg("c", handedVar))
		wantArgsText(t, "(a: 1, b: $v, c: "+text+")", arg("a", handedOne), arg("b", handedVar), arg("c", v))
		wantDirsText(t, " @a @b(c: "+text+") @d", dir("a"), dir("b", arg("c", v)), dir("d"))
	}
	if right < 50 || wrong < 200 {
		t.Errorf("%d right ones, %d wrong ones", right, wrong)
	}
}

func TestArgsAsTheyArePrinted(t *testing.T) {
	wantArgsText(t, "(a: 1)", arg("a", handedOne))
	wantArgsText(t, "(a: 1, b: $v)", arg("a", handedOne), arg("b", handedVar))
	wantArgsText(t, "(b: $v, a: 1)", arg("b", handedVar), arg("a", handedOne))
	wantArgsText(t, "(a: 1, a: 1, a: 1)", arg("a", handedOne), arg("a", handedOne), arg("a", handedOne))
	wantArgsText(t, `(a: "a\n\"é\"")`, arg("a", handedText))
	wantArgsText(t, `(a: "\\", b: "\u0000\u007f", c: "\t\b\f\r")`, arg("a", val(impl.VlString, `\`)), arg("b", val(impl.VlString, "\x00\x7f")), arg("c", val(impl.VlString, "\t\b\f\r")))
	wantArgsText(t, `(a: "), @b(c: 1)", d: "#,")`, arg("a", val(impl.VlString, "), @b(c: 1)")), arg("d", val(impl.VlString, "#,")))
	wantArgsText(t, `(a: "", b: [], c: {}, d: null, e: RED, f: -0.5)`, arg("a", val(impl.VlString, "")), arg("b", listOf()), arg("c", objectOf("")), arg("d", val(impl.VlWord, "null")), arg("e", val(impl.VlEnum, "RED")), arg("f", val(impl.VlFloat, "-0.5")))
	wantArgsText(t, `(a: {b: [1, $v], c: "\""}, d: [[], {}])`, arg("a", objectOf("b c", listOf(handedOne, handedVar), val(impl.VlString, `"`))), arg("d", listOf(listOf(), objectOf(""))))
	for _, text := range rightTexts[impl.VlString] {
		wantArgsText(t, "(a: "+escapedOracle(text)+")", arg("a", val(impl.VlString, text)))
		wantDirs(t, impl.DirsText([]impl.Dir{dir("a", arg("b", val(impl.VlString, text)))}), dir("a", arg("b", val(impl.VlString, text))))
	}
}

func TestDirectivesAsTheyArePrinted(t *testing.T) {
	wantDirsText(t, " @a", dir("a"))
	wantDirsText(t, " @a @b", dir("a"), dir("b"))
	wantDirsText(t, " @b @a @b", dir("b"), dir("a"), dir("b"))
	wantDirsText(t, " @a(b: 1)", dir("a", arg("b", handedOne)))
	wantDirsText(t, " @a(b: 1, c: $v) @d", dir("a", arg("b", handedOne), arg("c", handedVar)), dir("d"))
	wantDirsText(t, " @a @b(c: 1) @d @e(f: $v, g: 1)", dir("a"), dir("b", arg("c", handedOne)), dir("d"), dir("e", arg("f", handedVar), arg("g", handedOne)))
	wantDirsText(t, ` @a(b: "a\n\"é\"")`, dir("a", arg("b", handedText)))
}

// What TokensOf refuses for its length may still be printed: neither text has a limit of its own.
func TestManyOfThem(t *testing.T) {
	args := slices.Repeat([]impl.Arg{arg("a", handedOne)}, 3000)
	wantArgsText(t, "(a: 1"+strings.Repeat(", a: 1", 2999)+")", args...)
	wantDirsText(t, " @b(a: 1"+strings.Repeat(", a: 1", 2999)+")", dir("b", args...))
	wantDirsText(t, strings.Repeat(" @a", 5000), slices.Repeat([]impl.Dir{dir("a")}, 5000)...)
	wantSameArgs(t, args, slices.Clone(args), true)
	wantSameArgs(t, args, args[:2999], false)
	wantWrongArgs(t, append(slices.Clone(args), impl.Arg{})...)
	wantWrongDirs(t, append(slices.Repeat([]impl.Dir{dir("a")}, 5000), impl.Dir{})...)
}

func TestTheSameArgs(t *testing.T) {
	a, b, c := arg("a", handedOne), arg("b", handedVar), arg("c", objectOf("x y", listOf(handedOne, handedText), handedVar))
	list := []impl.Arg{a, b, c}
	wantSameArgs(t, list, []impl.Arg{a, b, arg("c", objectOf("x y", listOf(handedOne, handedText), handedVar))}, true)
	for many := range 3 {
		wantSameArgs(t, list, list[:many], false)
		wantSameArgs(t, list, list[many+1:], false)
		wantSameArgs(t, list[:many], slices.Clone(list[:many]), true)
	}
	for _, other := range [][]impl.Arg{{a, c, b}, {b, a, c}, {b, c, a}, {c, a, b}, {c, b, a}, {a, b, c, a}, {a, a, b, c}, {a, b, b}, {a, a, c}, {a, b, c, {}}} {
		wantSameArgs(t, list, other, false)
	}
	for at, one := range list {
		for _, name := range []string{"", "z", one.Name + "a", strings.ToUpper(one.Name), one.Name + " ", one.Name + "\x00"} {
			other := slices.Clone(list)
			other[at].Name = name
			wantSameArgs(t, list, other, false)
		}
		for _, v := range otherInOnePart(one.Value) {
			other := slices.Clone(list)
			other[at].Value = v
			wantSameArgs(t, list, other, shownOracle(v) == shownOracle(one.Value))
		}
	}
	wantSameArgs(t, []impl.Arg{arg("a", impl.Value{Kind: impl.VlList})}, []impl.Arg{arg("a", impl.Value{Kind: impl.VlList, Items: []impl.Value{}, Names: []string{}})}, true)
	wantSameArgs(t, []impl.Arg{arg("a", handedOne), arg("b", handedVar)}, []impl.Arg{arg("a", handedVar), arg("b", handedOne)}, false)
}

func TestEveryPairOfArgs(t *testing.T) {
	values := someValues()
	for i, v := range values {
		for _, w := range values[max(0, i-30):min(len(values), i+30)] {
			same := shownOracle(v) == shownOracle(w)
			wantSameArgs(t, []impl.Arg{arg("a", v)}, []impl.Arg{arg("a", w)}, same)
			wantSameArgs(t, []impl.Arg{arg("a", v)}, []impl.Arg{arg("b", w)}, false)
			wantSameArgs(t, []impl.Arg{arg("a", handedOne), arg("", v)}, []impl.Arg{arg("a", handedOne), arg("", w)}, same)
		}
	}
}

// A stack of calls that went as deep as these values would be refused, and with it all tests.
func TestArgsDeeperThanCallsCanGo(t *testing.T) {
	defer debug.SetMaxStack(debug.SetMaxStack(4 << 20))
	const deep = 200000
	one, two := []impl.Arg{arg("a", within(handedVar, deep, inList, inObject))}, []impl.Arg{arg("a", within(handedVar, deep, inList, inObject))}
	other := []impl.Arg{arg("a", within(handedOne, deep, inList, inObject))}
	if !impl.SameArgs(one, two) || impl.SameArgs(one, other) {
		t.Error("SameArgs of what is very deep")
	}
	if impl.ArgsOk(one) || impl.ArgsText(one) != "" || impl.DirsOk([]impl.Dir{dir("a", one...)}) || impl.DirsText([]impl.Dir{dir("a", one...)}) != "" {
		t.Error("what is very deep is right")
	}
	// A value that holds itself is not right, for it is deeper than any that is.
	ring := []impl.Value{{Kind: impl.VlList}}
	ring[0].Items = ring
	if impl.ArgsOk([]impl.Arg{arg("a", ring[0])}) || impl.DirsText([]impl.Dir{dir("a", arg("a", ring[0]))}) != "" {
		t.Error("what holds itself is right")
	}
}

func TestDirectivesOfNothing(t *testing.T) {
	wantDirs(t, "")
	for _, gap := range slices.Concat(allGaps, []string{"#", "# a", "#@a", "# @a(b: 1)\n", "\xef\xbb\xbf", "\xef\xbb\xbf #😀", strings.Repeat(" ", 12000), "#" + strings.Repeat("@", 11999)}) {
		wantDirs(t, gap)
	}
	wantNoDirs(t, strings.Repeat(" ", 12001), impl.FtLong, 0)
}

func TestNamesAndSignsOfDirectives(t *testing.T) {
	others := slices.Concat(allSigns, []string{"1", "-2.5", `"x"`, `"""x"""`, `""`})
	for _, gap := range append([]string{""}, allGaps...) {
		wantNoDirs(t, "@"+gap, impl.FtSyntax, 1+len(gap))
		wantNoDirs(t, "@a @"+gap, impl.FtSyntax, 4+len(gap))
		wantNoDirs(t, "@a(b: 1)@"+gap, impl.FtSyntax, 9+len(gap))
		for _, other := range others {
			wantNoDirs(t, "@"+gap+other, impl.FtSyntax, 1+len(gap))
			wantNoDirs(t, "@"+gap+other+" a", impl.FtSyntax, 1+len(gap))
			wantNoDirs(t, "@a @"+gap+other+" b", impl.FtSyntax, 4+len(gap))
			if other != "@" {
				wantNoDirs(t, gap+other, impl.FtSyntax, len(gap))
				wantNoDirs(t, gap+other+" @a", impl.FtSyntax, len(gap))
			}
		}
		for _, name := range []string{"a", "true", "null", "on", "a(b: 1)", "a @b"} {
			wantNoDirs(t, gap+name, impl.FtSyntax, len(gap))
			wantNoDirs(t, "@a "+gap+name, impl.FtSyntax, 3+len(gap))
			wantNoDirs(t, "@a(b: 1)"+gap+name, impl.FtSyntax, 8+len(gap))
		}
	}
	for s, at := range map[string]int{"@@": 1, "@@a": 1, "@a@": 3, "@a@@b": 3, "a@": 0, "a @b": 0, "@a b": 3, "@a b @c": 3, "@ @": 2, "@1": 1, "@$a": 1, "@(a: 1)": 1, "@(": 1, "@[a]": 1, "@{a}": 1, "@...a": 1, "@:a": 1, "@!": 1, `@"a"`: 1, "@a:": 2, "@a: 1": 2, "@a=1": 2, "@a[1]": 2, "@a{}": 2, "@a{b: 1}": 2, "@a!": 2, "@a|@b": 2, "@a & @b": 3, "@a 1": 3, `@a "b"`: 3, "@a $b": 3, "@a...": 2, "@a)": 2, "@a]": 2, "@a}": 2} {
		wantNoDirs(t, s, impl.FtSyntax, at)
		wantDirsAsOracle(t, s)
	}
}

func TestEmptyBrackets(t *testing.T) {
	for s, at := range map[string]int{"@a()": 3, "@a( )": 4, "@a( , )": 6, "@a(,)": 4, "@a(\n)": 4, "@a(#b: 1\n)": 9, "@a ()": 4, "@a()@b": 3, "@a()()": 3, "@a()(b: 1)": 3, "@a(b: 1) @c()": 12, "@a() @c(b: 1)": 3, "@a(())": 3, "()": 0, "( , )": 0, "@()": 1, "@a @b()": 6} {
		wantNoDirs(t, s, impl.FtSyntax, at)
		wantDirsAsOracle(t, s)
	}
	for _, gap := range allGaps {
		wantNoDirs(t, "@a("+gap+")", impl.FtSyntax, 3+len(gap))
		wantNoDirs(t, "@a"+gap+"("+gap+")"+gap, impl.FtSyntax, 3+2*len(gap))
		wantDirs(t, "@a("+gap+"b:1"+gap+")", dir("a", arg("b", handedOne)))
	}
	// Lists and objects, unlike brackets, may have nothing in them.
	wantDirs(t, "@a(b: [], c: {})", dir("a", arg("b", listOf()), arg("c", objectOf(""))))
}

func TestPartsOfArgsThatAreMissing(t *testing.T) {
	for s, at := range map[string]int{
		"@a(b)": 4, "@a(b": 4, "@a(b ": 5, "@a(b 1)": 5, "@a(b, c: 1)": 6, "@a(b c: 1)": 5, "@a(b = 1)": 5, "@a(b(c: 1))": 4, "@a(b: 1, c)": 10, "@a(b: 1, c d: 1)": 11, "@a(b@c)": 4, "@a(b]": 4, `@a(b "c")`: 5,
		"@a(b:)": 5, "@a(b: )": 6, "@a(b:": 5, "@a(b: ": 6, "@a(b: , )": 8, "@a(b::1)": 5, "@a(b: : 1)": 6, "@a(b: c: 1)": 7, "@a(b: 1, c:)": 11, "@a(b: 1, c: )": 12, "@a(b:@c)": 5, "@a(b:(1))": 5, "@a(b:!)": 5, "@a(b:...)": 5, "@a(b:])": 5, "@a(b:})": 5, "@a(b:=1)": 5, "@a(b:|)": 5, "@a(b:&)": 5,
		"@a(1)": 3, "@a(1: 1)": 3, "@a(: 1)": 3, "@a(:)": 3, `@a("b": 1)`: 3, `@a("b")`: 3, "@a(1.5)": 3, "@a([])": 3, "@a({})": 3, "@a({b: 1})": 3, "@a($b)": 3, "@a($b: 1)": 3, "@a(@b)": 3, "@a(!b: 1)": 3, "@a(...)": 3, "@a((b: 1))": 3, "@a(true)": 7, "@a(b: 1 2)": 8, "@a(b: 1, 2)": 9, "@a(b: 1 c: 2 3)": 13, "@a(b: 1 [])": 8, "@a(b: 1 $c)": 8, "@a(b: 1 : 2)": 8, `@a(b: "c" "d")`: 10, "@a(b: 1 @c)": 8,
	} {
		wantNoDirs(t, s, impl.FtSyntax, at)
		wantDirsAsOracle(t, s)
	}
}

func TestBracketsOfArgs(t *testing.T) {
	for s, at := range map[string]int{
		"@a(": 3, "@a( ": 4, "@a(b: 1": 7, "@a(b: 1 ": 8, "@a(b: 1, c: 2": 13, "@a(b: 1 @c": 8, "@a(b: 1 @c)": 8, "@a(b: [1)": 8, "@a(b: [1": 8, "@a(b: [1]": 9, "@a(b: {c: 1)": 11, "@a(b: {c: 1}": 12, "@a(b: 1]": 7, "@a(b: 1}": 7, "@a(#)": 5, "@a(b: 1#)": 9,
		")": 0, "(": 0, "@a)": 2, "@a )": 3, "@a(b: 1))": 8, "@a(b: 1) )": 9, "@a @b)": 5, "@)": 1, "@a(b: 1) @c)": 11, "(b: 1)": 0, "@a @(b: 1)": 4,
		"@a(b: 1)(c: 2)": 8, "@a(b: 1) (c: 2)": 9, "@a(b: 1)()": 8, "@a(b: 1)(": 8, "@a(b: 1),(c: 2)": 9, "@a((": 3, "@a(b: 1(": 7, "@a(b: 1 (c: 2))": 8,
		"@a(b: 1)[": 8, "@a(b: 1){": 8, "@a(b: 1) 1": 9, "@a(b: 1) a": 9, "@a(b: 1) b: 2": 9, "@a(b: 1) $c": 9, `@a(b: 1) "c"`: 9, "@a(b: 1)!": 8, "@a(b: 1):": 8, "@a(b: 1) = 2": 9, "@a(b: 1)...": 8,
	} {
		wantNoDirs(t, s, impl.FtSyntax, at)
		wantDirsAsOracle(t, s)
	}
}

func TestOneMoreTokenBehindDirectives(t *testing.T) {
	more := slices.Concat(allSigns, []string{"a", "true", "null", "1", "-1", "1.5", `"a"`, `""`, `"""a"""`, "$x", "[]", "{}", "(b: 1)", "a: 1", "{ a }"})
	for _, s := range []string{"@a", "@a @b", "@a(b: 1)", "@a @b(c: [1 2])", "@a(b: 1) @c(d: {e: 1}, f: 2)", "@a(b: 1) @c"} {
		for _, gap := range append([]string{" "}, allGaps...) {
			for _, other := range more {
				// Behind a name alone, a bracket is the beginning of its Args.
				if other == "@" || strings.HasPrefix(other, "(") && !strings.HasSuffix(s, ")") {
					wantDirsAsOracle(t, s+gap+other)
					continue
				}
				wantNoDirs(t, s+gap+other, impl.FtSyntax, len(s+gap))
				wantNoDirs(t, s+gap+other+gap+"@c", impl.FtSyntax, len(s+gap))
			}
		}
	}
}

func TestVariablesThatAreHandedIn(t *testing.T) {
	for _, name := range rightTexts[impl.VlVar] {
		x := val(impl.VlVar, name)
		for _, gap := range append([]string{""}, allGaps...) {
			wantDirs(t, "@a(b:"+gap+"$"+gap+name+")", dir("a", arg("b", x)))
			wantDirsNotConstant(t, "@a(b:"+gap+"$"+gap+name+")", 5+len(gap))
		}
		for s, one := range map[string]struct {
			at   int
			want []impl.Dir
		}{
			"@a(b: [$" + name + "])":              {7, []impl.Dir{dir("a", arg("b", listOf(x)))}},
			"@a(b: {c: $" + name + "})":           {10, []impl.Dir{dir("a", arg("b", objectOf("c", x)))}},
			"@a(b: [1 {c: [$" + name + "]}])":     {14, []impl.Dir{dir("a", arg("b", listOf(handedOne, objectOf("c", listOf(x)))))}},
			"@a(b: 1, c: $" + name + ")":          {12, []impl.Dir{dir("a", arg("b", handedOne), arg("c", x))}},
			"@a(b: $" + name + ", c: 1)":          {6, []impl.Dir{dir("a", arg("b", x), arg("c", handedOne))}},
			"@a @b(c: 1) @d(e: $" + name + ") @f": {18, []impl.Dir{dir("a"), dir("b", arg("c", handedOne)), dir("d", arg("e", x)), dir("f")}},
		} {
			wantDirs(t, s, one.want...)
			wantDirsNotConstant(t, s, one.at)
		}
	}
	for _, other := range slices.Concat([]string{"", " ", "#"}, allSigns, []string{"1", "2.5", `"x"`}) {
		at := 6
		if strings.TrimRight(other, " #") == "" {
			at = len("@a(b:$" + other)
		}
		wantNoDirs(t, "@a(b:$"+other, impl.FtSyntax, at)
		wantDirsNotConstant(t, "@a(b:$"+other, 5)
	}
	wantNoDirs(t, "@a(b: $)", impl.FtSyntax, 7)
	wantNoDirs(t, "@a(b: [$])", impl.FtSyntax, 8)
	wantNoDirs(t, "@a(b: $c $d)", impl.FtSyntax, 9)
	// What is wrong ahead of a variable is told, not the variable.
	wantDirsNotConstant(t, "@a() @b(c: $d)", 3)
	wantDirsNotConstant(t, "@a(b: 1 2 $d)", 8)
}

func TestHowDeepWhatIsHandedInMayBe(t *testing.T) {
	for times := range 11 {
		for _, v := range []impl.Value{within(handedOne, times, inList), within(handedVar, times, inObject), within(handedText, times, inList, inObject), within(handedVar, times, inObject, inList)} {
			list := []impl.Dir{dir("a", arg("b", v), arg("c", v)), dir("d", arg("e", v))}
			wantDirs(t, impl.DirsText(list), list...)
		}
	}
	// Each value begins anew: those ahead of it are shut.
	ten := within(listOf(), 9, inList)
	text := "[[[[[[[[[[]]]]]]]]]]"
	wantDirs(t, "@a(b:"+text+"c:"+text+")@d(e:"+text+")", dir("a", arg("b", ten), arg("c", ten)), dir("d", arg("e", ten)))
	wantWrongArgs(t, arg("a", within(listOf(), 10, inList)))
	wantWrongArgs(t, arg("a", handedOne), arg("b", within(handedOne, 11, inObject)))
	behind := []string{"", " ", "#", "]", "}", "1", "a:", "]]]]]]]]]]])", "1]]]]]]]]]]])", "[", "{", ":", "$x", "$ 1", `"a"`, "...", ") @b", "@b", ")", "()"}
	for _, open := range tenOpen {
		open = strings.TrimPrefix(open, "\xef\xbb\xbf")
		for _, ahead := range []string{"@a(b:", "@a(b: 1, c:", "@a @b(c: [[]]) @d(e: {f: []} g:", "#é€😀\n@a(b:", "\xef\xbb\xbf@a(b:", `@a(b: "é" c:` + text + "d:"} {
			for _, sign := range []string{"[", "{"} {
				for _, rest := range behind {
					wantNoDirs(t, ahead+open+sign+rest, impl.FtDeep, len(ahead+open))
				}
				wantDirsAs(t, ahead+open+sign+"$x", true, nil, impl.Fault{Code: impl.FtDeep, At: len(ahead + open)})
			}
			wantNoDirs(t, ahead+open, impl.FtSyntax, len(ahead+open))
			wantNoDirs(t, ahead+open+")", impl.FtSyntax, len(ahead+open))
			wantNoDirs(t, ahead+open+"@[", impl.FtSyntax, len(ahead+open))
		}
	}
	// What can't stand ahead of the eleventh is told, not the eleventh.
	for s, at := range map[string]int{"@a() @b(c: [[[[[[[[[[[": 3, "@a(b [[[[[[[[[[[": 5, "@a [[[[[[[[[[[": 3, "@a(b: 1) [[[[[[[[[[[": 9, "@a([[[[[[[[[[[": 3, "@[[[[[[[[[[[": 1, "[[[[[[[[[[[": 0, "@a(b: 1 [[[[[[[[[[[": 8} {
		wantNoDirs(t, s, impl.FtSyntax, at)
	}
}

func TestFaultsOfTokensCountFirstInDirectives(t *testing.T) {
	deep := "@a(b:" + strings.Repeat("[", 11)
	for broken, code := range brokenPieces {
		more := 0
		if code == impl.FtText {
			more = firstNoScalar(broken)
		}
		for _, ahead := range []string{
			"", " ", "@", "@a ", "@a @", "@a(", "@a(b ", "@a(b:", "@a(b: 1 ", "@a(b: 1) ", "@a(b: [", "@a(b: $", "@a(b: $c ",
			"a ", "1 ", ") ", "@@ ", "@1 ", "@a b ", "@a() ", "@a(b) ", "@a(b:) ", "@a(1 ", "@a(b: 1 2 ", "@a(b: 1)(", "@a(b: 1)) ", "@a(b: ] ",
			deep, deep + "]) ", "#é\n", `@a(b: "€" `, "\xef\xbb\xbf",
		} {
			wantNoDirs(t, ahead+broken, code, len(ahead)+more)
			wantDirsAs(t, ahead+broken, true, nil, impl.Fault{Code: code, At: len(ahead) + more})
			for _, behind := range []string{" ", "\n)", "\n@a", "\n@", "\n()", "\n%", "\n01", "\n" + deep, "\n\""} {
				wantDirsAsOracle(t, ahead+broken+behind)
			}
		}
	}
	wantNoDirs(t, "@a() %", impl.FtSign, 5)
	wantNoDirs(t, "% @a()", impl.FtSign, 0)
	wantNoDirs(t, "@a() 01 %", impl.FtNumber, 5)
	wantNoDirs(t, "@a() \" %", impl.FtString, 5)
	wantNoDirs(t, "@a() 01 \xff", impl.FtText, 8)
	for _, wrong := range wrongTexts {
		for _, ahead := range []string{"", "@", "@a", "@a(", "@a()", "@a(b:1)", deep, "%", "#", "é"} {
			wantNoDirs(t, ahead+wrong, impl.FtText, len(ahead)+firstNoScalar(wrong))
		}
	}
}

func TestPlacesOfFaultsInDirectives(t *testing.T) {
	for s, at := range map[string]int{
		"#é€😀\n@a b": 14, "#é\na": 4, "#€\n@)": 6, "  @  a  )": 8, "\xef\xbb\xbfa": 3, "\xef\xbb\xbf@a a": 6, "@a #é\n\n b": 9, "@#😀\na(#é\n)": 13, " ,\n\r\n)": 5, `@a(b: "é" 1)`: 11, `@a(b: "€" :)`: 12, `@a(b: "😀")(`: 13, `@a(b: """é€😀""") )`: 23, "@a(b: \"\\u00e9\" 1)": 15, "@a,,,,b": 6, "@a(b\r\n\t)": 7,
	} {
		wantNoDirs(t, s, impl.FtSyntax, at)
	}
	for _, s := range []string{"@", "@ ", "@a @", "@a @ #é", "@a(", "@a( #é€😀", "@a(b", "@a(b \n", "@a(b:", "@a(b:,,", "@a(b: $", "@a(b: $ #", "@a(b: 1", "@a(b: 1 #)", "@a(b: [", "@a(b: {c", "@a(b: {c:\r\n", "@a(b: \"é\"", "@a(b: \"é\" \t", "\xef\xbb\xbf@", "\xef\xbb\xbf@a(b:1 #😀\n#€"} {
		wantNoDirs(t, s, impl.FtSyntax, len(s))
	}
	for _, gap := range allGaps {
		wantNoDirs(t, gap+"@"+gap, impl.FtSyntax, 1+2*len(gap))
		wantNoDirs(t, gap+"@"+gap+"a"+gap+"("+gap, impl.FtSyntax, 3+4*len(gap))
		wantNoDirs(t, gap+"@"+gap+"a"+gap+"("+gap+"b"+gap+")", impl.FtSyntax, 4+5*len(gap))
		wantNoDirs(t, gap+"@"+gap+"a"+gap+"("+gap+"b"+gap+":"+gap+"1"+gap, impl.FtSyntax, 6+7*len(gap))
		wantNoDirs(t, gap+"@a(b:[[[[[[[[[["+gap+"[", impl.FtDeep, 15+2*len(gap))
	}
}

func TestDirectivesThatAreCutShort(t *testing.T) {
	for _, list := range [][]impl.Dir{
		{dir("a")}, {dir("a"), dir("b")}, {dir("a", arg("b", handedOne))}, {dir("a", arg("b", handedVar), arg("c", handedText)), dir("d")},
		{dir("a"), dir("b", arg("c", listOf(handedOne, objectOf("d", handedVar))), arg("e", objectOf(""))), dir("f", arg("g", within(listOf(), 9, inList, inObject)))},
	} {
		pieces := dirPieces(list)
		for many := range pieces {
			for _, gap := range slices.Concat(allGaps, []string{"#", "# a", " #é€", "#\n#)"}) {
				s := strings.Join(pieces[:many], " ") + gap
				whole := many == 0
				for i := range list {
					alone := impl.Dir{Name: list[i].Name}
					whole = whole || many == len(dirPieces(list[:i+1])) || many == len(dirPieces(append(slices.Clone(list[:i]), alone)))
				}
				if whole {
					wantDirsAsOracle(t, s)
				} else {
					wantNoDirs(t, s, impl.FtSyntax, len(s))
				}
			}
		}
		wantDirs(t, strings.Join(pieces, " "), list...)
	}
}

func TestDirectivesInSourcesAtTheirLimits(t *testing.T) {
	for s, list := range map[string][]impl.Dir{"": {}, "@a": {dir("a")}, "@a(b: 1)": {dir("a", arg("b", handedOne))}, "@a(b: $v) @c": {dir("a", arg("b", handedVar)), dir("c")}} {
		wantDirs(t, s+strings.Repeat(" ", 12000-len(s)), list...)
		wantDirs(t, strings.Repeat("\n", 12000-len(s))+s, list...)
		wantDirs(t, s+"#"+strings.Repeat("a", 11999-len(s)), list...)
		wantNoDirs(t, s+strings.Repeat(" ", 12001-len(s)), impl.FtLong, 0)
		wantNoDirs(t, strings.Repeat("\n", 12001-len(s))+s, impl.FtLong, 0)
	}
	wantNoDirs(t, "@"+strings.Repeat(" ", 11999), impl.FtSyntax, 12000)
	wantNoDirs(t, strings.Repeat(" ", 11999)+")", impl.FtSyntax, 11999)
	wantNoDirs(t, strings.Repeat("@", 12001), impl.FtLong, 0)
	wantNoDirs(t, strings.Repeat("\xff", 12001), impl.FtLong, 0)
	wantNoDirs(t, strings.Repeat("\xff", 12000), impl.FtText, 0)
	wantDirs(t, strings.Repeat("@a", 1250), slices.Repeat([]impl.Dir{dir("a")}, 1250)...)
	wantNoDirs(t, strings.Repeat("@a", 1250)+"@", impl.FtMany, 2500)
	wantNoDirs(t, strings.Repeat("@", 2500), impl.FtSyntax, 1)
	wantNoDirs(t, strings.Repeat("@", 2501), impl.FtMany, 2500)
	wantDirs(t, "@a("+strings.Repeat("b:1 ", 832)+")", dir("a", slices.Repeat([]impl.Arg{arg("b", handedOne)}, 832)...))
	wantNoDirs(t, "@a("+strings.Repeat("b:1 ", 832)+") 1", impl.FtMany, 3+4*832+2)
	// Right ones whose text is longer than a source may be, or of more tokens, do not come back.
	wantNoDirs(t, impl.DirsText([]impl.Dir{dir("a", slices.Repeat([]impl.Arg{arg("b", handedOne)}, 833)...)}), impl.FtMany, 4+6*832+1)
	wantNoDirs(t, impl.DirsText([]impl.Dir{dir("a", slices.Repeat([]impl.Arg{arg("b", val(impl.VlString, strings.Repeat("a", 200)))}, 60)...)}), impl.FtLong, 0)
}

func TestEveryShortTextOfDirectives(t *testing.T) {
	eachText([]string{"@", "a ", "(", ")", ":", "1 ", "$"}, 6, func(s string) { wantDirsAsOracle(t, s) })
	eachText([]string{"@", "a ", "true ", "(", ")", ":", "1.5 ", `"a"`, "[", "]", "{", "}", "$", "!", "...", "% ", "01 ", "#é\n"}, 3, func(s string) { wantDirsAsOracle(t, s) })
	for _, open := range []string{"@a(", "@a(b", "@a(b:", "@a(b:1 ", "@a(b:1)", "@a(b:1 c:", "@a @b(c:", "@a(b:[", "@a(b:{", "@a(b:{c:", "@a(b:1)@c(", "@a(b:[[[[[[[[["} {
		eachText([]string{"@", "a ", "(", ")", ":", "1 ", "$", "[", "]", "{", "}"}, 4, func(s string) { wantDirsAsOracle(t, open+s) })
	}
}

func TestEachPieceOfDirectivesLeftOutChangedOrTwice(t *testing.T) {
	others := slices.Concat(allSigns, []string{"1", "2.5", `"z"`, `"""z"""`, "z", "true", "%", "01", `"`})
	for _, list := range [][]impl.Dir{
		{dir("a", arg("b", handedOne), arg("c", handedVar)), dir("d")},
		{dir("a"), dir("true", arg("null", listOf(handedText, handedVar)), arg("x", objectOf("y", val(impl.VlEnum, "RED")))), dir("b", arg("c", val(impl.VlWord, "null")))},
		{dir("a", arg("b", within(handedVar, 10, inObject, inList)))},
	} {
		pieces := dirPieces(list)
		for at := range pieces {
			wantDirsAsOracle(t, strings.Join(slices.Delete(slices.Clone(pieces), at, at+1), " "))
			for _, other := range append([]string{pieces[at]}, others...) {
				changed := slices.Clone(pieces)
				changed[at] = other
				wantDirsAsOracle(t, strings.Join(changed, " "))
				wantDirsAsOracle(t, strings.Join(slices.Insert(slices.Clone(pieces), at, other), " "))
			}
		}
	}
}

func TestEveryByteInATextOfDirectives(t *testing.T) {
	for _, s := range []string{`@a(b: 1, c: $v) @d`, `@a(b: ["c" {}])`, "@a @b"} {
		for at := range len(s) + 1 {
			for b := range 256 {
				wantDirsAsOracle(t, s[:at]+string([]byte{byte(b)})+s[at:])
				if at < len(s) {
					wantDirsAsOracle(t, s[:at]+string([]byte{byte(b)})+s[at+1:])
				}
			}
		}
	}
}

// What is read is right, and comes back from its own text, however it was written.
func TestDirectivesThatAreReadAreRight(t *testing.T) {
	many := 0
	eachText([]string{"@", "a ", "(", ")", ":", "1 ", "@a(a:"}, 6, func(s string) {
		dirs, fault := impl.ReadDirs(s, false)
		if fault.Code != 0 {
			return
		}
		many++
		if !impl.DirsOk(dirs) {
			t.Errorf("ReadDirs(%q): %s", s, shownDirs(dirs))
		}
		wantDirs(t, impl.DirsText(dirs), dirs...)
	})
	if many < 10 {
		t.Errorf("%d texts were read", many)
	}
}

// argsWithRoom is the same list, with room behind it, and behind each list in it, in which something stands already.
func argsWithRoom(list []impl.Arg) []impl.Arg {
	args := []impl.Arg{}
	for _, a := range list {
		args = append(args, arg(a.Name, withRoom(a.Value)))
	}
	return append(args, arg("room1", val(77, "room")), arg("room2", val(78, "room")))[:len(list)]
}

func dirsWithRoom(list []impl.Dir) []impl.Dir {
	dirs := []impl.Dir{}
	for _, d := range list {
		dirs = append(dirs, impl.Dir{Name: d.Name, Args: argsWithRoom(d.Args)})
	}
	return append(dirs, dir("room1"), dir("room2"))[:len(list)]
}

func wholeOfArgs(list []impl.Arg) string {
	text := fmt.Sprint(len(list))
	for _, a := range list[:cap(list)] {
		text += fmt.Sprintf(" %q %s", a.Name, wholeOf(a.Value))
	}
	return text
}

func wholeOfDirs(list []impl.Dir) string {
	text := fmt.Sprint(len(list))
	for _, d := range list[:cap(list)] {
		text += fmt.Sprintf(" %q %s", d.Name, wholeOfArgs(d.Args))
	}
	return text
}

func TestNothingIsWrittenIntoWhatIsHandedIn(t *testing.T) {
	c := arg("c", objectOf("x y", listOf(handedOne, handedText), handedVar))
	for _, list := range [][]impl.Dir{
		{}, {{}}, {dir("a")}, {dir("a", c)}, {dir("b", c, arg("b", handedOne), c), dir("a"), dir("a", c)}, {dir("a", c, impl.Arg{}), {}}, {dir("1", c)}, {dir("a", arg("b", val(77, "x"))), dir("c")}, {dir("a", arg("", listOf(handedVar)))},
	} {
		held, other := dirsWithRoom(list), dirsWithRoom(list)
		ahead := wholeOfDirs(held)
		for range 2 {
			impl.DirsOk(held)
			impl.DirsText(held)
			for i, d := range held {
				impl.ArgsOk(d.Args)
				impl.ArgsText(d.Args)
				impl.SameArgs(d.Args, other[i].Args)
				impl.SameArgs(d.Args, nil)
			}
		}
		if got := wholeOfDirs(held); got != ahead || wholeOfDirs(other) != ahead {
			t.Errorf("%s has become %s", ahead, got)
		}
	}
}

// overwriteDirs fills each list of an answer, and the room behind it, with something else, one list at a time.
func overwriteDirs(dirs []impl.Dir, see func(what string)) {
	for _, d := range dirs {
		for _, a := range d.Args {
			overwritten(a.Value, see)
		}
		args := d.Args[:cap(d.Args)]
		for i := range args {
			args[i] = arg("other", val(77, "other"))
		}
		see("args")
	}
	dirs = dirs[:cap(dirs)]
	for i := range dirs {
		dirs[i] = dir("other", arg("other", val(77, "other")))
	}
	see("directives")
}

func TestReadDirsAnswersNewMemory(t *testing.T) {
	for _, s := range []string{"", "@a", "@a @b @c", "@a(b: 1)", "@a(b: 1, c: [1 2]) @d(e: {f: [$g]}, h: []) @i", "@a(b: [1 2 3]) @c @d(e: [1 2 3], f: [1 2 3])", "@a()", "@a(b: 1"} {
		first, _ := impl.ReadDirs(s, false)
		second, _ := impl.ReadDirs(s, false)
		want := shownDirs(second)
		overwriteDirs(first, func(what string) {
			if got := shownDirs(second); got != want {
				t.Fatalf("%q: another answer became %s when %s were overwritten", s, got, what)
			}
		})
		wantDirsAsOracle(t, s)
	}
}

// The Args of each directive of an answer are overwritten alone, and so is each list in a value: all others have to stay as they are.
func TestNoTwoListsOfDirectivesShareMemory(t *testing.T) {
	for _, s := range []string{"@a(b: 1, c: 2, d: 3) @e(f: 4) @g @h(i: 5, j: 6)", "@a @b @c(d: 1)", "@a(b: [1 2 3], c: [4], d: [5 6]) @e(f: [7], g: {h: 8, i: 9, j: 10}, k: {l: 11})"} {
		whole, _ := readDirsOracle(s, false)
		for i := range whole {
			got, _ := impl.ReadDirs(s, false)
			want, _ := readDirsOracle(s, false)
			for _, list := range [][]impl.Dir{got, want} {
				args := list[i].Args[:cap(list[i].Args)]
				for at := range args {
					args[at] = arg("other", val(77, "other"))
				}
			}
			if shownDirs(got) != shownDirs(want) {
				t.Errorf("%q: with the Args of directive %d overwritten it is %s", s, i, shownDirs(got))
			}
			for j := range whole[i].Args {
				for at := range listsIn(whole[i].Args[j].Value) {
					got, _ := impl.ReadDirs(s, false)
					want, _ := readDirsOracle(s, false)
					changeList(&got[i].Args[j].Value, at)
					changeList(&want[i].Args[j].Value, at)
					if shownDirs(got) != shownDirs(want) {
						t.Errorf("%q: with list %d of Arg %d of directive %d overwritten it is %s", s, at, j, i, shownDirs(got))
					}
				}
			}
		}
	}
}

func TestReadDirsKeepsNothing(t *testing.T) {
	for range 3 {
		wantNoDirs(t, "@a(b:[[[[[[[[[[[", impl.FtDeep, 15)
		wantDirs(t, "@a(b:[[[[[[[[[[]]]]]]]]]])", dir("a", arg("b", within(listOf(), 9, inList))))
		wantNoDirs(t, "@a(b: 1", impl.FtSyntax, 7)
		wantDirs(t, "@a", dir("a"))
		wantNoDirs(t, "@a()", impl.FtSyntax, 3)
		wantDirs(t, "")
		wantDirsNotConstant(t, "@a(b: $v)", 6)
		wantDirs(t, "@a(b: $v)", dir("a", arg("b", handedVar)))
	}
}
