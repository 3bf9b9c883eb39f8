package tests

import (
	"fmt"
	"math"
	"reflect"
	"regexp"
	"runtime/debug"
	"slices"
	"strings"
	"testing"

	"loop.example/g00964/impl"
)

func field(name string, sels ...impl.Sel) impl.Sel {
	return impl.Sel{Kind: impl.SlField, Name: name, Sels: sels}
}

func aliased(alias string, s impl.Sel) impl.Sel {
	s.Alias = alias
	return s
}

func spread(name string, dirs ...impl.Dir) impl.Sel {
	return impl.Sel{Kind: impl.SlSpread, Name: name, Dirs: dirs}
}

func inline(on string, sels ...impl.Sel) impl.Sel {
	return impl.Sel{Kind: impl.SlInline, On: on, Sels: sels}
}

func given(s impl.Sel, args ...impl.Arg) impl.Sel {
	s.Args = args
	return s
}

func directed(s impl.Sel, dirs ...impl.Dir) impl.Sel {
	s.Dirs = dirs
	return s
}

// selParts has a letter for each part that there is, in the order of the fields.
func selParts(s impl.Sel) string {
	parts := ""
	for i, there := range []bool{s.Alias != "", s.Name != "", s.On != "", len(s.Args) > 0, len(s.Dirs) > 0, len(s.Sels) > 0} {
		if there {
			parts += "ANOads"[i : i+1]
		}
	}
	return parts
}

var selForms = map[int]*regexp.Regexp{1: regexp.MustCompile(`^A?Na?d?s?$`), 2: regexp.MustCompile(`^Nd?$`), 3: regexp.MustCompile(`^O?d?s$`)}

// The chapter's words, written another way, to hold the program against: whether it is right, how many there are in all, how deep they go.
func selOracle(s impl.Sel) (bool, int, int) {
	form := selForms[s.Kind]
	right := form != nil && form.MatchString(selParts(s)) && (s.Kind != 2 || s.Name != "on")
	for _, name := range []string{s.Alias, s.Name, s.On} {
		right = right && (name == "" || nameOracle(name))
	}
	_, args := argsOracle(s.Args)
	_, dirs := dirsOracle(s.Dirs)
	all, most := 1, 0
	for _, inner := range s.Sels {
		ok, many, deep := selOracle(inner)
		right = right && ok
		all += many
		most = max(most, deep)
	}
	return right && args && dirs && all <= 120 && most < 10, all, most + 1
}

type selLine struct {
	by   int
	text string
}

func selLines(list []impl.Sel, by int) []selLine {
	lines := []selLine{}
	for _, s := range list {
		args, _ := argsOracle(s.Args)
		dirs, _ := dirsOracle(s.Dirs)
		text := s.Name + args
		switch selParts(s)[:1] {
		case "A":
			text = s.Alias + ": " + text
		case "O":
			text = " on " + s.On
		}
		if s.Kind != 1 {
			text = "..." + text
		}
		if len(s.Sels) == 0 {
			lines = append(lines, selLine{by, text + dirs})
			continue
		}
		lines = append(lines, selLine{by, text + dirs + " {"})
		lines = append(lines, selLines(s.Sels, by+1)...)
		lines = append(lines, selLine{by, "}"})
	}
	return lines
}

// Lines that would be moved in by more than twenty are none.
func selsTextOracle(list []impl.Sel, by int) string {
	for _, s := range list {
		if right, _, _ := selOracle(s); !right || by < 0 {
			return ""
		}
	}
	text := ""
	for _, line := range selLines(list, by) {
		if line.by <= 20 {
			text += fmt.Sprintf("%*s%s\n", 2*line.by, "", line.text)
		}
	}
	return text
}

// Two lists are the same where these are: nil and an empty list are written alike, and nothing else is.
func shownSels(list []impl.Sel) string {
	text := fmt.Sprint(len(list))
	for _, s := range list {
		text += fmt.Sprintf(" <%d %q %q %q %s %s {%s}>", s.Kind, s.Alias, s.Name, s.On, shownArgs(s.Args), shownDirs(s.Dirs), shownSels(s.Sels))
	}
	return text
}

func allSelsOracle(list []impl.Sel) []impl.Sel {
	all := []impl.Sel{}
	for _, s := range list {
		all = slices.Concat(all, []impl.Sel{s}, allSelsOracle(s.Sels))
	}
	return all
}

// Selections that are being put together: those whose braces are open, from the outside in, the one that is begun, and what has to come next.
type selsState struct {
	open  []impl.Sel
	now   impl.Sel
	given dirsState
	want  string
	taken int
}

// What is handed in is read as the directives behind one without a name, whose Args are those of a field.
func (r *selsState) head(want string) {
	r.given = dirsState{dirs: []impl.Dir{{}}, want: want}
	r.want = "head"
}

func (r *selsState) put() {
	r.now.Args, r.now.Dirs = r.given.dirs[0].Args, r.given.dirs[1:]
	last := len(r.open) - 1
	r.open[last].Sels = append(r.open[last].Sels, r.now)
	r.want = "sel or }"
}

func (r *selsState) begin(kind int, name string) int {
	if r.taken == 120 {
		return 6
	}
	r.taken++
	r.now = impl.Sel{Kind: kind, Name: name}
	r.want = map[int]string{1: "colon", 3: "behind points"}[kind]
	return 0
}

func (r *selsState) brace(s impl.Sel) int {
	if len(r.open) == 10 {
		return 8
	}
	r.open = append(r.open, s)
	r.want = "sel"
	return 0
}

func (r *selsState) seeHead(token impl.Token, form string) int {
	takes := form == "@" || form == "(" && r.given.want != "directive"
	if takes || !strings.HasSuffix(r.given.want, "directive") {
		return r.given.see(token)
	}
	if form == "{" && r.now.Kind != 2 {
		r.now.Args, r.now.Dirs = r.given.dirs[0].Args, r.given.dirs[1:]
		return r.brace(r.now)
	}
	if r.now.Kind == 3 {
		return 7
	}
	r.put()
	return r.see(token)
}

func (r *selsState) shut() int {
	last := len(r.open) - 1
	if last == 0 {
		r.now, r.want = r.open[0], "nothing"
		return 0
	}
	r.open[last-1].Sels = append(r.open[last-1].Sels, r.open[last])
	r.open = r.open[:last]
	r.want = "sel or }"
	return 0
}

func (r *selsState) see(token impl.Token) int {
	form := []string{"", token.Text, "a name", "a number", "a number", "a text"}[token.Kind]
	if r.want == "head" {
		return r.seeHead(token, form)
	}
	switch r.want + " " + form {
	case "{ {":
		return r.brace(impl.Sel{})
	case "sel a name", "sel or } a name":
		return r.begin(1, token.Text)
	case "sel ...", "sel or } ...":
		return r.begin(3, "")
	case "sel or } }":
		return r.shut()
	case "colon :":
		r.want = "name"
	case "name a name":
		r.now.Alias, r.now.Name = r.now.Name, token.Text
		r.head("bracket or directive")
	case "behind points a name":
		if token.Text == "on" {
			r.want = "on"
			return 0
		}
		r.now.Kind, r.now.Name = 2, token.Text
		r.head("directive")
	case "on a name":
		r.now.On = token.Text
		r.head("directive")
	default:
		if r.want != "colon" && r.want != "behind points" {
			return 7
		}
		r.head(map[string]string{"colon": "bracket or directive", "behind points": "directive"}[r.want])
		return r.see(token)
	}
	return 0
}

// Token by token, with what has to come next as a word.
func readSelsOracle(s string) ([]impl.Sel, impl.Fault) {
	tokens, fault := tokensOracle(s)
	if fault.Code != 0 {
		return nil, fault
	}
	r := selsState{want: "{"}
	for _, token := range tokens {
		if code := r.see(token); code != 0 {
			return nil, impl.Fault{Code: code, At: token.At}
		}
	}
	if r.want != "nothing" {
		return nil, impl.Fault{Code: 7, At: len(s)}
	}
	return r.now.Sels, impl.Fault{}
}

func wantSelsAs(t *testing.T, s string, want []impl.Sel, wrong impl.Fault) {
	t.Helper()
	if got, fault := impl.ReadSels(s); fault != wrong || shownSels(got) != shownSels(want) {
		t.Errorf("ReadSels(%.300q): %.300s, %v, want %.300s, %v", s, shownSels(got), fault, shownSels(want), wrong)
	}
}

func wantSels(t *testing.T, s string, want ...impl.Sel) {
	t.Helper()
	wantSelsAs(t, s, want, impl.Fault{})
}

func wantNoSels(t *testing.T, s string, code int, at int) {
	t.Helper()
	wantSelsAs(t, s, nil, impl.Fault{Code: code, At: at})
}

func wantSelsAsOracle(t *testing.T, s string) {
	t.Helper()
	want, fault := readSelsOracle(s)
	wantSelsAs(t, s, want, fault)
}

func wantSelsText(t *testing.T, by int, text string, list ...impl.Sel) {
	t.Helper()
	for _, s := range list {
		if !impl.SelOk(s) {
			t.Errorf("SelOk(%.300s) is false", shownSels([]impl.Sel{s}))
		}
	}
	if got := impl.SelsText(list, by); got != text {
		t.Errorf("SelsText(%.300s, %d): %.300q, want %.300q", shownSels(list), by, got, text)
	}
}

// wantRightSel is for selections that are right: they have a text, and come back from it.
func wantRightSel(t *testing.T, s impl.Sel) {
	t.Helper()
	text := selsTextOracle([]impl.Sel{s}, 0)
	if text == "" {
		t.Errorf("%.300s is taken for right", shownSels([]impl.Sel{s}))
	}
	wantSelsText(t, 0, text, s)
	wantSels(t, "{"+text+"}", s)
}

// wantWrongSel is for selections that are not right; they make each one wrong that has them, and each list.
func wantWrongSel(t *testing.T, s impl.Sel) {
	t.Helper()
	right := given(field("a"), arg("b", handedOne))
	for _, wrong := range []impl.Sel{s, field("a", s), inline("", s), inline("A", right, s, right), field("a", s, right), field("a", right, right, s), field("a", field("b", right, s))} {
		if impl.SelOk(wrong) {
			t.Errorf("SelOk(%.300s) is true", shownSels([]impl.Sel{wrong}))
		}
	}
	for _, list := range [][]impl.Sel{{s}, {s, right, right}, {right, s, right}, {right, right, s}, {field("a", s)}, {right, inline("", right, s)}} {
		for _, by := range []int{0, 20} {
			if got := impl.SelsText(list, by); got != "" {
				t.Errorf("SelsText(%.300s, %d): %.300q", shownSels(list), by, got)
			}
		}
	}
}

func wantSelAsOracle(t *testing.T, s impl.Sel) {
	t.Helper()
	if right, _, _ := selOracle(s); right {
		wantRightSel(t, s)
	} else {
		wantWrongSel(t, s)
	}
}

func wantAllSels(t *testing.T, list []impl.Sel, want ...impl.Sel) {
	t.Helper()
	if got := impl.AllSels(list); shownSels(got) != shownSels(want) {
		t.Errorf("AllSels(%.300s): %.300s, want %.300s", shownSels(list), shownSels(got), shownSels(want))
	}
}

// argPieces has the text of each token of right Args.
func argPieces(list []impl.Arg) []string {
	if len(list) == 0 {
		return nil
	}
	return dirPieces([]impl.Dir{{Name: "a", Args: list}})[2:]
}

// selPieces has the text of each token of right selections, their braces too.
func selPieces(list []impl.Sel) []string {
	pieces := []string{"{"}
	for _, s := range list {
		if s.Alias != "" {
			pieces = append(pieces, s.Alias, ":")
		}
		if s.Kind != impl.SlField {
			pieces = append(pieces, "...")
		}
		if s.On != "" {
			pieces = append(pieces, "on", s.On)
		}
		if s.Name != "" {
			pieces = append(pieces, s.Name)
		}
		pieces = slices.Concat(pieces, argPieces(s.Args), dirPieces(s.Dirs))
		if len(s.Sels) > 0 {
			pieces = append(pieces, selPieces(s.Sels)...)
		}
	}
	return append(pieces, "}")
}

var (
	oneGiven  = []impl.Arg{arg("b", handedOne)}
	manyGiven = []impl.Arg{arg("b", handedVar), arg("b", handedText), arg("on", listOf(handedOne, objectOf("x", handedVar)))}
	oneDir    = []impl.Dir{dir("d")}
	manyDir   = []impl.Dir{dir("d", arg("e", handedOne), arg("f", objectOf(""))), dir("d"), dir("on", arg("on", handedVar))}
	selNames  = []string{"a", "_", "Z9_", "true", "false", "null", "on", "query", "fragment", "type", "__typename", "b1", "On", "onn", longestName}
)

// everyMix has a selection of this kind for each mix of parts, right or not; each part is there in several ways.
func everyMix(kind int) []impl.Sel {
	list := []impl.Sel{}
	for _, alias := range []string{"", "x", "on", "1"} {
		for _, name := range []string{"", "y", "on", "true", "y z"} {
			for _, on := range []string{"", "T", "on", "-"} {
				for _, args := range [][]impl.Arg{nil, {}, oneGiven, manyGiven, {{}}} {
					for _, dirs := range [][]impl.Dir{nil, {}, oneDir, manyDir, {{}}} {
						for _, sels := range [][]impl.Sel{nil, {}, {field("s")}, {field("s"), spread("t"), inline("", field("u"))}, {{}}} {
							list = append(list, impl.Sel{Kind: kind, Alias: alias, Name: name, On: on, Args: args, Dirs: dirs, Sels: sels})
						}
					}
				}
			}
		}
	}
	return list
}

// manySels has lists of right selections: one and several, of each kind, with and without each of their parts, and with each kind of value.
func manySels() [][]impl.Sel {
	lists := [][]impl.Sel{}
	for kind := 1; kind <= 3; kind++ {
		for _, s := range everyMix(kind) {
			if right, _, _ := selOracle(s); right {
				other := lists[max(0, len(lists)-7):]
				lists = append(lists, []impl.Sel{s})
				if len(other) > 0 {
					lists = append(lists, []impl.Sel{s, other[0][0], s}, []impl.Sel{field("a", s, other[0][0]), s}, []impl.Sel{inline("B", other[0][0], inline("", s))})
				}
			}
		}
	}
	for i, name := range selNames {
		other := selNames[(i+4)%len(selNames)]
		lists = append(lists, []impl.Sel{field(name), aliased(other, field(name)), inline(name, field(other)), aliased(name, field(name, field(name)))})
		if name != "on" {
			lists = append(lists, []impl.Sel{spread(name), field("on"), spread(name, dir(other)), spread(name)})
		}
	}
	for i, v := range manyRight() {
		name, other := selNames[i%len(selNames)], selNames[(i/15)%len(selNames)]
		s := given(field(name), arg(other, v))
		switch i % 4 {
		case 0:
			lists = append(lists, []impl.Sel{s, directed(inline("", s), dir(other, arg(name, v)))})
		case 1:
			lists = append(lists, []impl.Sel{aliased(other, s), spread("s", dir(name, arg(other, v)))})
		case 2:
			lists = append(lists, []impl.Sel{directed(s, dir("a"), dir(other, arg(name, v), arg(name, v)))})
		default:
			lists = append(lists, []impl.Sel{field("a", field("b", s)), spread("c"), given(field("d", s), arg("e", v), arg("f", v))})
		}
	}
	return lists
}

// chain has so many one within the other, the last one of them being s, each of the others made by one of the ways in turn.
func chain(s impl.Sel, many int, ways ...func(impl.Sel) impl.Sel) impl.Sel {
	for i := 1; i < many; i++ {
		s = ways[i%len(ways)](s)
	}
	return s
}

func inField(s impl.Sel) impl.Sel { return field("a", s) }

func inInline(s impl.Sel) impl.Sel { return inline("", s) }

var selWays = map[string][]func(impl.Sel) impl.Sel{
	"fields":           {inField},
	"inlines":          {inInline},
	"inlines on":       {func(s impl.Sel) impl.Sel { return directed(inline("A", s), dir("d")) }},
	"both":             {inField, inInline},
	"both the other":   {inInline, inField},
	"first":            {func(s impl.Sel) impl.Sel { return field("a", s, field("b"), spread("c")) }},
	"amid":             {func(s impl.Sel) impl.Sel { return inline("", field("b"), s, field("c", field("d"))) }},
	"last":             {func(s impl.Sel) impl.Sel { return aliased("x", field("a", spread("b"), field("c"), s)) }},
	"behind directive": {func(s impl.Sel) impl.Sel { return given(directed(field("a", s), dir("d", oneGiven...)), oneGiven...) }},
}

func TestSelsLimits(t *testing.T) {
	if got := [...]int{impl.SlField, impl.SlSpread, impl.SlInline, impl.MaxTake}; got != [...]int{1, 2, 3, 120} {
		t.Errorf("%v", got)
	}
}

func TestRightSelectionsComeBack(t *testing.T) {
	lists := manySels()
	if len(lists) < 3000 {
		t.Fatalf("%d lists", len(lists))
	}
	for i, list := range lists {
		for _, by := range []int{0, i % 21} {
			text := selsTextOracle(list, by)
			if text == "" {
				t.Fatalf("%.300s is not right", shownSels(list))
			}
			wantSelsText(t, by, text, list...)
			if _, _, deep := selOracle(field("a", list...)); by+deep <= 20 {
				wantSels(t, "{"+impl.SelsText(list, by)+"}", list...)
			}
		}
		wantSelsAsOracle(t, "{"+impl.SelsText(list, 0)+"}")
		wantAllSels(t, list, allSelsOracle(list)...)
	}
}

func TestRightSelectionsComeBackWhateverIsBetween(t *testing.T) {
	for i, list := range manySels() {
		pieces := selPieces(list)
		for _, gap := range []string{" ", ",", allGaps[i%len(allGaps)], allGaps[(i/7)%len(allGaps)] + "\n"} {
			wantSels(t, gap+strings.Join(pieces, gap)+gap, list...)
		}
		wantSels(t, "\xef\xbb\xbf"+strings.Join(pieces, "\r\n")+"#}", list...)
	}
	list := []impl.Sel{aliased("a", given(field("b", spread("c"), directed(inline("D", field("e")), dir("f"))), arg("g", handedVar))), inline("", field("h")), field("i")}
	for _, one := range allGaps {
		for _, other := range allGaps {
			text := ""
			for i, piece := range selPieces(list) {
				text += piece + []string{one, other, one + other}[i%3]
			}
			wantSels(t, one+text, list...)
		}
	}
}

func TestSelectionsWithNothingBetween(t *testing.T) {
	a, b := field("a"), field("b")
	wantSels(t, "{a}", a)
	wantSels(t, "{a b}", a, b)
	wantSels(t, "{a{b}b}", field("a", b), b)
	wantSels(t, "{a:b}", aliased("a", b))
	wantSels(t, "{a:b a:b}", aliased("a", b), aliased("a", b))
	wantSels(t, "{...a}", spread("a"))
	wantSels(t, "{...a...b}", spread("a"), spread("b"))
	wantSels(t, "{...a b...b a}", spread("a"), b, spread("b"), a)
	wantSels(t, "{...{a}}", inline("", a))
	wantSels(t, "{...on a{b}}", inline("a", b))
	wantSels(t, "{...on on{on}}", inline("on", field("on")))
	wantSels(t, "{...{a}...{b}a...b}", inline("", a), inline("", b), a, spread("b"))
	wantSels(t, "{a(b:1)b}", given(a, oneGiven...), b)
	wantSels(t, "{a(b:1)@d{b}...a@d...@d{a}}", directed(given(field("a", b), oneGiven...), oneDir...), spread("a", oneDir...), directed(inline("", a), oneDir...))
	wantSels(t, "{a(b:1)...a}", given(a, oneGiven...), spread("a"))
	wantSels(t, "{a@d a}", directed(a, oneDir...), a)
	wantSels(t, "{a@d(e:1)a:b}", directed(a, dir("d", arg("e", handedOne))), aliased("a", b))
	wantSels(t, "{,a,:,b,...,a,...,on,a,{,b,},}", aliased("a", b), spread("a"), inline("a", b))
	wantSels(t, "{#}\na#:\n:#c\nb#{c}\n}#", aliased("a", b))
	wantSels(t, "{...#on\non#b\na{#}\nb}#\n}", inline("a", b))
}

func TestSelectionsWrittenOut(t *testing.T) {
	wantSels(t, "{a: b(c: 1) @d {e ...F ... on G {h}}}", impl.Sel{Kind: 1, Alias: "a", Name: "b", Args: []impl.Arg{{Name: "c", Value: impl.Value{Kind: 2, Text: "1"}}}, Dirs: []impl.Dir{{Name: "d"}}, Sels: []impl.Sel{{Kind: 1, Name: "e"}, {Kind: 2, Name: "F"}, {Kind: 3, On: "G", Sels: []impl.Sel{{Kind: 1, Name: "h"}}}}})
	wantSels(t, "{ user(id: 4) { id, small: pic(size: 64), ...friends @include(if: $more) } }", given(field("user", field("id"), aliased("small", given(field("pic"), arg("size", val(impl.VlInt, "64")))), spread("friends", dir("include", arg("if", val(impl.VlVar, "more"))))), arg("id", val(impl.VlInt, "4"))))
	wantSels(t, "{ ... @skip(if: $x) { a } ... on T @b @c { d } }", directed(inline("", field("a")), dir("skip", arg("if", val(impl.VlVar, "x")))), directed(inline("T", field("d")), dir("b"), dir("c")))
	wantSels(t, "{a{b{c{d}}}}", field("a", field("b", field("c", field("d")))))
	wantSels(t, "{a{b}c{d}}", field("a", field("b")), field("c", field("d")))
	wantSels(t, "{...{...{...a}}}", inline("", inline("", spread("a"))))
	wantSels(t, "{a a a}", field("a"), field("a"), field("a"))
	wantSels(t, `{a(b: {c: "}"}) {d}}`, given(field("a", field("d")), arg("b", objectOf("c", val(impl.VlString, "}")))))
	wantSels(t, "{true: false null: null on: on}", aliased("true", field("false")), aliased("null", field("null")), aliased("on", field("on")))
}

func TestWhatEachKindOfSelectionHasToHave(t *testing.T) {
	wantSelsText(t, 0, "a\n", impl.Sel{Kind: impl.SlField, Name: "a"})
	wantSelsText(t, 0, "...a\n", impl.Sel{Kind: impl.SlSpread, Name: "a"})
	wantSelsText(t, 0, "... {\n  a\n}\n", impl.Sel{Kind: impl.SlInline, Sels: []impl.Sel{{Kind: impl.SlField, Name: "a"}}})
	wantWrongSel(t, impl.Sel{Kind: impl.SlField})
	wantWrongSel(t, impl.Sel{Kind: impl.SlSpread})
	wantWrongSel(t, impl.Sel{Kind: impl.SlInline})
	wantWrongSel(t, impl.Sel{})
	wantWrongSel(t, field("", field("a")))
	wantWrongSel(t, given(field(""), oneGiven...))
	wantWrongSel(t, aliased("a", field("")))
	wantWrongSel(t, spread("", oneDir...))
	wantWrongSel(t, inline("A"))
	wantWrongSel(t, directed(inline(""), oneDir...))
	wantWrongSel(t, directed(inline("A"), oneDir...))
	wantWrongSel(t, impl.Sel{Kind: impl.SlInline, On: "A", Sels: []impl.Sel{}})
	wantRightSel(t, impl.Sel{Kind: impl.SlField, Name: "a", Args: []impl.Arg{}, Dirs: []impl.Dir{}, Sels: []impl.Sel{}})
	wantRightSel(t, impl.Sel{Kind: impl.SlSpread, Name: "a", Args: []impl.Arg{}, Dirs: []impl.Dir{}, Sels: []impl.Sel{}})
}

func TestPartsThatASelectionMayNotHave(t *testing.T) {
	f, s, i := field("a"), spread("a"), inline("", field("a"))
	wantRightSel(t, aliased("x", f))
	wantRightSel(t, given(f, oneGiven...))
	wantRightSel(t, directed(f, oneDir...))
	wantRightSel(t, field("a", f))
	wantRightSel(t, directed(s, oneDir...))
	wantRightSel(t, inline("A", f))
	wantRightSel(t, directed(i, oneDir...))
	wantWrongSel(t, impl.Sel{Kind: impl.SlField, Name: "a", On: "A"})
	wantWrongSel(t, impl.Sel{Kind: impl.SlField, Name: "a", On: "A", Sels: []impl.Sel{f}})
	wantWrongSel(t, impl.Sel{Kind: impl.SlField, On: "A", Sels: []impl.Sel{f}})
	wantWrongSel(t, aliased("x", s))
	wantWrongSel(t, given(s, oneGiven...))
	wantWrongSel(t, impl.Sel{Kind: impl.SlSpread, Name: "a", On: "A"})
	wantWrongSel(t, impl.Sel{Kind: impl.SlSpread, Name: "a", Sels: []impl.Sel{f}})
	wantWrongSel(t, aliased("x", i))
	wantWrongSel(t, given(i, oneGiven...))
	wantWrongSel(t, impl.Sel{Kind: impl.SlInline, Name: "a", Sels: []impl.Sel{f}})
	wantWrongSel(t, impl.Sel{Kind: impl.SlInline, Name: "a", On: "A", Sels: []impl.Sel{f}})
}

func TestEveryMixOfPartsOfSelections(t *testing.T) {
	for kind, want := range map[int]int{1: 3 * 3 * 4 * 4 * 4, 2: 2 * 2 * 4 * 2, 3: 3 * 2 * 4 * 2} {
		right := 0
		for _, s := range everyMix(kind) {
			ok, _, _ := selOracle(s)
			if ok {
				right++
			}
			if got := impl.SelOk(s); got != ok {
				t.Errorf("SelOk(%s): %v", shownSels([]impl.Sel{s}), got)
			}
			if got := impl.SelsText([]impl.Sel{s}, 1); got != selsTextOracle([]impl.Sel{s}, 1) {
				t.Errorf("SelsText(%s, 1): %q", shownSels([]impl.Sel{s}), got)
			}
		}
		if right != want {
			t.Errorf("%d right ones of kind %d", right, kind)
		}
	}
}

func TestKindsOfSelectionsThatAreNone(t *testing.T) {
	kinds := append([]int{4, 5, 7, 8}, noKinds...)
	for _, kind := range kinds {
		for _, s := range []impl.Sel{{}, field("a"), spread("a"), inline("", field("a")), inline("A", field("a")), given(directed(aliased("b", field("a", field("c"))), oneDir...), oneGiven...)} {
			s.Kind = kind
			wantWrongSel(t, s)
		}
	}
	for _, kind := range append([]int{1, 2, 3}, kinds...) {
		s := field("a")
		s.Kind = kind
		if got := impl.SelOk(s); got != (kind == 1 || kind == 2) {
			t.Errorf("kind %d: %v", kind, got)
		}
	}
}

func TestNamesOfSelections(t *testing.T) {
	for _, name := range selNames {
		wantRightSel(t, field(name))
		wantRightSel(t, aliased(name, field("a")))
		wantRightSel(t, aliased(name, field(name)))
		wantRightSel(t, inline(name, field("a")))
		wantSelAsOracle(t, spread(name))
		wantSels(t, "{"+name+"}", field(name))
		wantSels(t, "{"+name+" "+name+"}", field(name), field(name))
		wantSels(t, "{"+name+":"+name+"}", aliased(name, field(name)))
		wantSels(t, "{...on "+name+"{"+name+"}}", inline(name, field(name)))
		if name != "on" {
			wantSels(t, "{..."+name+" "+name+"}", spread(name), field(name))
		}
	}
	wantWrongSel(t, field(tooLongName))
	wantWrongSel(t, aliased(tooLongName, field("a")))
	wantWrongSel(t, spread(tooLongName))
	wantWrongSel(t, inline(tooLongName, field("a")))
	wantNoSels(t, "{"+tooLongName+"}", impl.FtSign, 1)
	wantNoSels(t, "{a:"+tooLongName+"}", impl.FtSign, 3)
	wantNoSels(t, "{..."+tooLongName+"}", impl.FtSign, 4)
}

func TestNamesOfSelectionsThatAreNone(t *testing.T) {
	names := slices.Concat([]string{" ", "a ", " a", "1", "1a", "-", "a-b", "a.b", "a:", "a(", "@a", "$a", "é", "aé", "a\n", "a\x00", "\"a\"", "a b", "a: b", "...a", "on a", "\xff", "#a", tooLongName, strings.Repeat("a", 12001)}, wholeTexts, otherTexts, wrongTexts, allSigns, allGaps)
	for _, name := range names {
		wantWrongSel(t, field(name))
		wantWrongSel(t, aliased(name, field("a")))
		wantWrongSel(t, spread(name))
		wantWrongSel(t, inline(name, field("a")))
	}
	for b := range 256 {
		for _, name := range []string{string([]byte{byte(b)}), string([]byte{'a', byte(b)}), string([]byte{byte(b), 'a'}), string([]byte{'a', byte(b), 'a'})} {
			for _, s := range []impl.Sel{field(name), aliased(name, field("a")), spread(name), inline(name, field("a"))} {
				if impl.SelOk(s) != nameOracle(name) {
					t.Errorf("%s: %v", shownSels([]impl.Sel{s}), impl.SelOk(s))
				}
			}
		}
	}
}

func TestOnIsNoNameOfASpread(t *testing.T) {
	wantWrongSel(t, spread("on"))
	wantWrongSel(t, spread("on", oneDir...))
	for _, name := range []string{"On", "ON", "oN", "onn", "on_", "o", "n", "_on"} {
		wantRightSel(t, spread(name))
		wantSels(t, "{..."+name+"}", spread(name))
		wantSels(t, "{..."+name+" on{a}}", spread(name), field("on", field("a")))
	}
	wantRightSel(t, field("on"))
	wantRightSel(t, aliased("on", field("on", field("on"))))
	wantRightSel(t, inline("on", field("on")))
}

func TestPartsOfWhichOneIsWrong(t *testing.T) {
	for at := range 3 {
		args := []impl.Arg{arg("a", handedOne), arg("b", listOf()), arg("c", handedVar)}
		dirs := []impl.Dir{dir("a"), dir("b", arg("b", listOf())), dir("c")}
		sels := []impl.Sel{field("a"), spread("b"), inline("", field("c"))}
		wantRightSel(t, given(field("a"), args...))
		for _, s := range []impl.Sel{field("a"), spread("b"), inline("C", field("c"))} {
			wantRightSel(t, directed(s, dirs...))
		}
		wantRightSel(t, field("a", sels...))
		wantRightSel(t, inline("", sels...))
		for _, wrong := range []impl.Arg{{}, arg("", handedOne), arg("1", handedOne), arg("a", impl.Value{}), arg("a", val(impl.VlInt, "01")), arg("a", within(listOf(), 10, inList))} {
			changed := slices.Clone(args)
			changed[at] = wrong
			wantWrongSel(t, given(field("a"), changed...))
			for _, s := range []impl.Sel{field("a"), spread("b"), inline("C", field("c"))} {
				wantWrongSel(t, directed(s, dir("d", changed...)))
			}
		}
		for _, wrong := range []impl.Dir{{}, dir(""), dir("1"), dir("a b"), dir("a", impl.Arg{}), dir("a", arg("b", val(impl.VlEnum, "true")))} {
			changed := slices.Clone(dirs)
			changed[at] = wrong
			for _, s := range []impl.Sel{field("a"), spread("b"), inline("C", field("c"))} {
				wantWrongSel(t, directed(s, changed...))
			}
		}
		for _, wrong := range []impl.Sel{{}, field(""), field("1"), spread("on"), inline(""), inline("A"), aliased("a", spread("b")), field("a", impl.Sel{}), inline("", field("a"), field(""))} {
			changed := slices.Clone(sels)
			changed[at] = wrong
			wantWrongSel(t, field("a", changed...))
			wantWrongSel(t, inline("", changed...))
			wantWrongSel(t, inline("A", changed...))
		}
	}
}

// manyShapes has selections of so many in all, shaped in several ways.
func manyShapes(many int) map[string]impl.Sel {
	flat := func(many int) []impl.Sel { return slices.Repeat([]impl.Sel{field("b")}, many) }
	shapes := map[string]impl.Sel{
		"beside":     field("a", flat(many-1)...),
		"in inline":  inline("A", flat(many-1)...),
		"spreads":    field("a", slices.Repeat([]impl.Sel{spread("s")}, many-1)...),
		"one within": chain(field("b", flat(many-9)...), 9, inField),
		"inlines":    chain(inline("", flat(many-9)...), 9, inInline),
		"behind":     field("a", append([]impl.Sel{chain(field("b"), 9, inField)}, flat(many-10)...)...),
		"ahead":      field("a", append(flat(many-10), chain(field("b"), 9, inInline, inField))...),
		"halves":     field("a", field("b", flat(many/2-2)...), inline("", flat(many-many/2-1)...)),
	}
	sevens := slices.Repeat([]impl.Sel{field("a", field("b", spread("c"), field("d")), inline("", field("e")))}, (many-1)/6)
	shapes["trees"] = field("a", append(sevens, flat((many-1)%6)...)...)
	return shapes
}

func TestAsManySelectionsAsThereMayBe(t *testing.T) {
	for many := 110; many <= 130; many++ {
		for shape, s := range manyShapes(many) {
			if _, all, _ := selOracle(s); all != many {
				t.Fatalf("%s: %d, not %d", shape, all, many)
			}
			if got := impl.SelOk(s); got != (many <= 120) {
				t.Errorf("SelOk of %d in all, %s: %v", many, shape, got)
			}
			if got := impl.SelsText([]impl.Sel{s}, 0); got != selsTextOracle([]impl.Sel{s}, 0) {
				t.Errorf("SelsText of %d in all, %s: %.100q", many, shape, got)
			}
			text := strings.Join(selPieces([]impl.Sel{s}), " ")
			wantSelsAsOracle(t, text)
			if _, fault := impl.ReadSels(text); (fault.Code == 0) != (many <= 120) || fault.Code != 0 && fault.Code != impl.FtMany {
				t.Errorf("ReadSels of %d in all, %s: %v", many, shape, fault)
			}
			wantAllSels(t, []impl.Sel{s}, allSelsOracle([]impl.Sel{s})...)
		}
	}
	for _, s := range manyShapes(120) {
		wantRightSel(t, s)
		wantWrongSel(t, field("a", s))
		wantWrongSel(t, inline("", s))
	}
	for _, s := range manyShapes(121) {
		wantWrongSel(t, s)
	}
	for _, s := range manyShapes(3000) {
		wantWrongSel(t, s)
	}
	// Each one of a list is counted by itself: a text may have more of them than may be read.
	s := field("a", slices.Repeat([]impl.Sel{field("b")}, 119)...)
	text := "a {\n" + strings.Repeat("  b\n", 119) + "}\n"
	wantSelsText(t, 0, text+text, s, s)
	wantNoSels(t, "{"+text+text+"}", impl.FtMany, 1+len(text))
	wantSelsText(t, 0, strings.Repeat("a\n", 5000), slices.Repeat([]impl.Sel{field("a")}, 5000)...)
}

func TestHowDeepSelectionsMayBe(t *testing.T) {
	for way, ways := range selWays {
		for many := 1; many <= 15; many++ {
			for _, last := range []impl.Sel{field("z"), spread("z"), given(aliased("y", field("z")), oneGiven...)} {
				s := chain(last, many, ways...)
				if _, _, deep := selOracle(s); deep < many || deep > many+1 {
					t.Fatalf("%s: %d, not %d", way, deep, many)
				}
				wantSelAsOracle(t, s)
				wantSelsAsOracle(t, strings.Join(selPieces([]impl.Sel{s}), " "))
				wantAllSels(t, []impl.Sel{s}, allSelsOracle([]impl.Sel{s})...)
			}
		}
	}
	for _, way := range []string{"fields", "inlines", "inlines on", "both", "first", "last"} {
		wantRightSel(t, chain(field("z"), 10, selWays[way]...))
		wantWrongSel(t, chain(field("z"), 11, selWays[way]...))
	}
	// It is the deepest one that counts, wherever it stands.
	ten, eleven := chain(field("z"), 9, inField), chain(field("z"), 10, inField)
	for at := range 3 {
		sels := []impl.Sel{field("a"), chain(field("z"), 9, inInline), spread("b")}
		sels[at] = ten
		wantRightSel(t, field("a", sels...))
		sels[at] = eleven
		wantWrongSel(t, field("a", sels...))
	}
	// Values in it begin anew.
	wantRightSel(t, chain(given(field("z"), arg("a", within(listOf(), 9, inList))), 10, inField))
	wantWrongSel(t, given(field("z"), arg("a", within(listOf(), 10, inList))))
}

func TestSelectionsAsTheyArePrinted(t *testing.T) {
	a, args, dirs := field("a"), []impl.Arg{arg("b", handedOne), arg("c", handedVar)}, []impl.Dir{dir("d", arg("e", handedText)), dir("f")}
	wantSelsText(t, 0, "")
	wantSelsText(t, 20, "")
	wantSelsText(t, 0, "a\n", a)
	wantSelsText(t, 0, "x: a\n", aliased("x", a))
	wantSelsText(t, 0, "a(b: 1, c: $v)\n", given(a, args...))
	wantSelsText(t, 0, "a @d(e: \"a\\n\\\"é\\\"\") @f\n", directed(a, dirs...))
	wantSelsText(t, 0, "x: a(b: 1, c: $v) @d(e: \"a\\n\\\"é\\\"\") @f {\n  a\n}\n", directed(given(aliased("x", field("a", a)), args...), dirs...))
	wantSelsText(t, 0, "a {\n  a\n}\n", field("a", a))
	wantSelsText(t, 0, "...a\n", spread("a"))
	wantSelsText(t, 0, "...a @d(e: \"a\\n\\\"é\\\"\") @f\n", spread("a", dirs...))
	wantSelsText(t, 0, "... {\n  a\n}\n", inline("", a))
	wantSelsText(t, 0, "... on A {\n  a\n}\n", inline("A", a))
	wantSelsText(t, 0, "... @d {\n  a\n}\n", directed(inline("", a), oneDir...))
	wantSelsText(t, 0, "... on A @d @d {\n  a\n}\n", directed(inline("A", a), dir("d"), dir("d")))
	wantSelsText(t, 0, "a\na\n...a\nx: a\n", a, a, spread("a"), aliased("x", a))
	wantSelsText(t, 1, "  a\n  ...b\n  ... {\n    c\n    d {\n      e\n    }\n  }\n  f\n", a, spread("b"), inline("", field("c"), field("d", field("e"))), field("f"))
	wantSelsText(t, 2, "    a {\n      b\n    }\n    c {\n      d\n    }\n", field("a", field("b")), field("c", field("d")))
	wantSelsText(t, 0, "a: a\n", aliased("a", a))
}

func TestHowFarSelectionsAreMovedIn(t *testing.T) {
	a := field("a")
	nested := []impl.Sel{aliased("x", field("a", field("b", field("c")), spread("d"))), inline("E", directed(inline("", field("f")), oneDir...))}
	for by := range 21 {
		blanks := strings.Repeat(" ", 2*by)
		wantSelsText(t, by, blanks+"a\n", a)
		wantSelsText(t, by, blanks+"a\n"+blanks+"...b\n", a, spread("b"))
		if by < 20 {
			wantSelsText(t, by, blanks+"a {\n"+blanks+"  a\n"+blanks+"}\n", field("a", a))
		}
		wantSelsText(t, by, selsTextOracle(nested, by), nested...)
		wantSelsText(t, by, "")
	}
	// Beyond 20 there is no text: of what is inside then only the braces are left.
	b20, b19, b18 := strings.Repeat(" ", 40), strings.Repeat(" ", 38), strings.Repeat(" ", 36)
	wantSelsText(t, 20, b20+"a {\n"+b20+"}\n", field("a", a))
	wantSelsText(t, 20, b20+"... {\n"+b20+"}\n", inline("", a))
	wantSelsText(t, 20, b20+"a {\n"+b20+"}\n"+b20+"b\n", field("a", field("a", a), a), field("b"))
	wantSelsText(t, 19, b19+"a {\n"+b20+"a\n"+b19+"}\n", field("a", a))
	wantSelsText(t, 19, b19+"a {\n"+b20+"b {\n"+b20+"}\n"+b20+"d\n"+b19+"}\n", field("a", field("b", field("c")), field("d")))
	wantSelsText(t, 18, b18+"a {\n"+b19+"b {\n"+b20+"c\n"+b19+"}\n"+b18+"}\n", field("a", field("b", field("c"))))
	wantSelsText(t, 18, b18+"a {\n"+b19+"b {\n"+b20+"c {\n"+b20+"}\n"+b19+"}\n"+b18+"}\n", field("a", field("b", field("c", field("d")))))
	for by := range 21 {
		ten := chain(field("z"), 10, inField, inInline)
		wantSelsText(t, by, selsTextOracle([]impl.Sel{ten}, by), ten)
	}
	for _, by := range []int{-1, -2, -20, 21, 22, 40, 100, 256, 1 << 32, math.MinInt, math.MaxInt, math.MinInt + 1, math.MaxInt - 1} {
		for _, list := range [][]impl.Sel{nil, {}, {a}, {a, a}, nested, {{}}} {
			if got := impl.SelsText(list, by); got != "" {
				t.Errorf("SelsText(%s, %d): %q", shownSels(list), by, got)
			}
		}
	}
}

func TestTextsOfListsWithAWrongOne(t *testing.T) {
	right := []impl.Sel{field("a"), spread("b"), inline("", field("c")), field("d", field("e"))}
	wantSelsText(t, 0, "a\n...b\n... {\n  c\n}\nd {\n  e\n}\n", right...)
	for at := range 5 {
		for _, wrong := range []impl.Sel{{}, field(""), spread("on"), inline("A"), field("a", field("1")), aliased("é", field("a")), given(field("a"), impl.Arg{}), directed(field("a"), impl.Dir{}), chain(field("z"), 11, inField), field("a", slices.Repeat([]impl.Sel{field("b")}, 120)...)} {
			for by := range 21 {
				if got := impl.SelsText(slices.Insert(slices.Clone(right), at, wrong), by); got != "" {
					t.Errorf("with %.100s at %d: %.300q", shownSels([]impl.Sel{wrong}), at, got)
				}
			}
		}
	}
}

func TestTextsWithoutSelections(t *testing.T) {
	wantNoSels(t, "", impl.FtSyntax, 0)
	wantNoSels(t, "{}", impl.FtSyntax, 1)
	for _, gap := range slices.Concat(allGaps, []string{"#", "# a", "#{a}", " #{a}", "\xef\xbb\xbf", "\xef\xbb\xbf #😀", strings.Repeat(" ", 12000), "#" + strings.Repeat("{", 11999)}) {
		wantNoSels(t, gap, impl.FtSyntax, len(gap))
	}
	for _, gap := range allGaps {
		wantNoSels(t, "{"+gap+"}", impl.FtSyntax, 1+len(gap))
		wantNoSels(t, gap+"{"+gap, impl.FtSyntax, 1+2*len(gap))
		wantNoSels(t, "{a"+gap+"{"+gap+"}}", impl.FtSyntax, 3+2*len(gap))
		wantNoSels(t, "{..."+gap+"{"+gap+"}}", impl.FtSyntax, 5+2*len(gap))
		wantNoSels(t, "{...on A"+gap+"{"+gap+"}}", impl.FtSyntax, 9+2*len(gap))
		wantSels(t, gap+"{"+gap+"a"+gap+"}"+gap, field("a"))
	}
	for s, at := range map[string]int{"{}}": 1, "{}a": 1, "{{}}": 1, "{a{}}": 3, "{a{}b}": 3, "{a b{}}": 5, "{a{b}c{}}": 7, "{...{}}": 5, "{...{}a}": 5, "{...on A{}}": 9, "{a:b{}}": 5, "{a(b:1){}}": 8, "{a@d{}}": 5, "{a{b{}}}": 5, "{,}": 2} {
		wantNoSels(t, s, impl.FtSyntax, at)
		wantSelsAsOracle(t, s)
	}
}

func TestBracesOfSelections(t *testing.T) {
	for s, at := range map[string]int{
		"a": 0, "a b": 0, "a}": 0, "a{b}": 0, "a: b": 0, "...a": 0, "...": 0, "...{a}": 0, "... on A {a}": 0, "a(b: 1)": 0, "@a": 0, "(a)": 0, "[a]": 0, `"a"`: 0, "1": 0, "$a": 0, ":a": 0, "}": 0, "}{": 0, "} a {": 0, "query {a}": 0,
		"{": 1, "{ ": 2, "{a": 2, "{a ": 3, "{a b": 4, "{a: b": 5, "{...a": 5, "{a{b}": 5, "{a{b": 4, "{a{": 3, "{a{b{c}}": 8, "{...{a}": 7, "{...{a": 6, "{... on A{a}": 12, "{a(b: 1)": 8, "{a @d": 5, "{a #}": 5, "{a{b #}}": 8,
		"{a}}": 3, "{a} }": 4, "{a}a": 3, "{a} a": 4, "{a}{": 3, "{a}{b}": 3, "{a} {b}": 4, "{a},{b}": 4, "{a}...": 3, "{a}...b": 3, "{a}:": 3, "{a}: b": 3, "{a}(": 3, "{a}(b: 1)": 3, "{a}@d": 3, "{a} 1": 4, "{a}\"b\"": 3, "{a}$": 3, "{a}!": 3, "{a}=": 3, "{a}|": 3, "{a}&": 3, "{a}[": 3, "{a}]": 3, "{a})": 3, "{a{b}}}": 6, "{a{b}}{c}": 6,
		"{{": 1, "{{a}}": 1, "{ {a} }": 2, "{a{{b}}}": 3, "{a{b}{c}}": 5, "{a{b} {c}}": 6, "{...{a}{b}}": 7, "{a b{c}{d}}": 7, "{a{b{c}{d}}}": 7, "{a{b}@d}": 5, "{a{b}(c: 1)}": 5, "{a{b}: c}": 5, "{...{a}@d}": 7, "{... on A{a} @d {b}}": 13,
		"{a)": 2, "{a]": 2, "{a))": 2, "[a}": 0, "(a}": 0, "{a{b)}": 4, "{a{b]}": 4,
	} {
		wantNoSels(t, s, impl.FtSyntax, at)
		wantSelsAsOracle(t, s)
	}
}

func TestTokensThatBeginNoSelection(t *testing.T) {
	others := []string{"1", "-2.5", `"x"`, `"""x"""`, `""`, "$x", "[]", "()", ": a"}
	for _, sign := range allSigns {
		if sign != "..." && sign != "}" {
			others = append(others, sign)
		}
	}
	for _, ahead := range []string{"{", "{\n", "{a{", "{...{", "{...on A{", "{a{b{", "{a{b}c{", "{a:b{"} {
		for _, other := range others {
			wantNoSels(t, ahead+other, impl.FtSyntax, len(ahead))
			wantNoSels(t, ahead+other+" a}", impl.FtSyntax, len(ahead))
		}
	}
	// Behind a whole one only what goes on with it may stand beside what begins another one.
	for ahead, goes := range map[string]string{"{a": ":(@{", "{a:b": "(@{", "{a(b:1)": "@{", "{a@d": "(@{", "{a@d(e:1)": "@{", "{a{b}": "", "{...a": "@", "{...a@d": "(@", "{...a@d(e:1)": "@", "{...{a}": "", "{...on A{a}": ""} {
		for _, other := range append([]string{"1", "-2.5", `"x"`, `"""x"""`}, allSigns...) {
			s := ahead + " " + other
			if other == "..." || other == "}" || strings.Contains(goes, other) {
				if _, fault := impl.ReadSels(s); fault != (impl.Fault{Code: impl.FtSyntax, At: len(s)}) && s[len(s)-1] != '}' {
					t.Errorf("ReadSels(%q): %v", s, fault)
				}
				wantSelsAsOracle(t, s)
				continue
			}
			wantNoSels(t, s, impl.FtSyntax, len(ahead)+1)
			wantNoSels(t, s+" a}", impl.FtSyntax, len(ahead)+1)
		}
	}
}

func TestNamesAheadOfAColon(t *testing.T) {
	a, b := field("a"), field("b")
	for _, gap := range append([]string{""}, allGaps...) {
		wantSels(t, "{a"+gap+":"+gap+"b}", aliased("a", b))
		wantSels(t, "{a"+gap+":"+gap+"b"+gap+"}", aliased("a", b))
		wantSels(t, "{a"+gap+":"+gap+"b"+gap+"{a}}", aliased("a", field("b", a)))
		wantNoSels(t, "{a"+gap+":"+gap, impl.FtSyntax, 3+2*len(gap))
		wantNoSels(t, "{a"+gap+":"+gap+"}", impl.FtSyntax, 3+2*len(gap))
		wantNoSels(t, "{a"+gap+":"+gap+":"+gap+"b}", impl.FtSyntax, 3+2*len(gap))
		wantNoSels(t, "{a"+gap+":"+gap+"b"+gap+":"+gap+"b}", impl.FtSyntax, 4+3*len(gap))
		wantNoSels(t, "{a"+gap+":"+gap+"...b}", impl.FtSyntax, 3+2*len(gap))
		for _, other := range slices.Concat(allSigns, []string{"1", "-1", "2.5", `"b"`, `""`, `"""b"""`}) {
			wantNoSels(t, "{a:"+gap+other, impl.FtSyntax, 3+len(gap))
			wantNoSels(t, "{a:"+gap+other+" b}", impl.FtSyntax, 3+len(gap))
			wantNoSels(t, "{c a:"+gap+other+" b}", impl.FtSyntax, 5+len(gap))
			wantNoSels(t, "{c{a:"+gap+other+" b}}", impl.FtSyntax, 5+len(gap))
		}
	}
	wantSels(t, "{a:b c}", aliased("a", b), field("c"))
	wantSels(t, "{a b:c}", a, aliased("b", field("c")))
	wantSels(t, "{a b:c d}", a, aliased("b", field("c")), field("d"))
	wantSels(t, "{a:b c:d}", aliased("a", b), aliased("c", field("d")))
	wantSels(t, "{a:a}", aliased("a", a))
	wantSels(t, "{a{b:c}}", field("a", aliased("b", field("c"))))
	wantSels(t, "{...a b:c}", spread("a"), aliased("b", field("c")))
	wantSels(t, "{on:b}", aliased("on", b))
	wantSels(t, "{a:on}", aliased("a", field("on")))
	wantSels(t, "{...{on:on}}", inline("", aliased("on", field("on"))))
	wantSels(t, "{...a on:b}", spread("a"), aliased("on", b))
	wantSels(t, "{a:b(b:1)@d{c:a}}", directed(given(aliased("a", field("b", aliased("c", a))), oneGiven...), oneDir...))
	wantSels(t, "{a(b:1)b:b}", given(a, oneGiven...), aliased("b", b))
	wantSels(t, "{a@d b:b}", directed(a, oneDir...), aliased("b", b))
	for s, at := range map[string]int{
		"{:b}": 1, "{:}": 1, "{::}": 1, "{a b:}": 5, "{a:b c:}": 7, "{a:b:c}": 4, "{a:b:}": 4, "{a: b: c: d}": 5, "{a::b}": 3, "{a: :b}": 4, "{a::}": 3, "{a(b:1):c}": 7, "{a@d:c}": 4, "{a@d(b:1):c}": 9, "{a{b}:c}": 5, "{a:{b}}": 3, "{a:(b:1)}": 3, "{a:@d}": 3, "{a:@d b}": 3, "{a:$b}": 3, "{a:1}": 3, `{a:"b"}`: 3, "{a:[b]}": 3, "{a:...}": 3, "{a:...b}": 3, "{a:...{b}}": 3, "{a:!}": 3, "{a:}": 3, "{a:": 3,
		"{...:a}": 4, "{...a:b}": 5, "{...a: b}": 5, "{...on:b}": 6, "{...on: {b}}": 6, "{... on A: b}": 9, "{...a@d:b}": 7, "{...{a}:b}": 7,
	} {
		wantNoSels(t, s, impl.FtSyntax, at)
		wantSelsAsOracle(t, s)
	}
}

func TestBehindThreePoints(t *testing.T) {
	a := field("a")
	d := dir("d", arg("e", handedOne))
	wantSels(t, "{... on A {a}}", inline("A", a))
	wantSels(t, "{... on A @d(e: 1) {a}}", directed(inline("A", a), d))
	wantSels(t, "{... {a}}", inline("", a))
	wantSels(t, "{... @d(e: 1) {a}}", directed(inline("", a), d))
	wantSels(t, "{... @d(e: 1) @d(e: 1) {a} a}", directed(inline("", a), d, d), a)
	wantSels(t, "{... A}", spread("A"))
	wantSels(t, "{... A @d(e: 1)}", spread("A", d))
	wantSels(t, "{... A @d(e: 1) a {a}}", spread("A", d), field("a", a))
	wantSels(t, "{... on on {a}}", inline("on", a))
	wantSels(t, "{... on on @on {a}}", directed(inline("on", a), dir("on")))
	wantSels(t, "{... on true {a}}", inline("true", a))
	wantSels(t, "{... A on}", spread("A"), field("on"))
	wantSels(t, "{... A on {a}}", spread("A"), field("on", a))
	wantSels(t, "{... A on A {a}}", spread("A"), field("on"), field("A", a))
	wantSels(t, "{... true}", spread("true"))
	for s, at := range map[string]int{
		// on and a name, without a brace
		"{... on A": 9, "{... on A}": 9, "{... on A @d}": 12, "{... on A @d(e: 1)}": 18, "{... on A a}": 10, "{... on A on {a}}": 10, "{... on A ... {a}}": 10, "{... on A (e: 1) {a}}": 10, "{... on A 1}": 10, "{... on A @d a}": 13, "{... on A @d(e: 1)(e: 1) {a}}": 18, "{... on A {a": 12,
		// on alone
		"{... on": 7, "{... on}": 7, "{... on {a}}": 8, "{... on @d {a}}": 8, "{... on @d}": 8, "{... on (e: 1)}": 8, "{... on ...A}": 8, "{... on 1 {a}}": 8, `{... on "A" {a}}`: 8, "{... on : A {a}}": 8, "{... on $A {a}}": 8, "{... on [A] {a}}": 8,
		// another name, with what it may not have
		"{... A {a}}": 7, "{...A{a}}": 5, "{... A @d {a}}": 10, "{... A @d(e: 1) {a}}": 16, "{... A {": 7, "{... A {}}": 7, "{... A (e: 1)}": 7, "{... A (e: 1) @d}": 7, "{... A: a}": 6, "{... A @d(e: 1)(e: 1)}": 15, "{... A 1}": 7, `{... A "a"}`: 7, "{... A": 6, "{... A @d": 9, "{... A ! }": 7, "{... true {a}}": 10,
		// neither
		"{...": 4, "{...}": 4, "{... }": 5, "{... @d}": 7, "{... @d": 7, "{... @d a}": 8, "{... @d ...A}": 8, "{... (e: 1) {a}}": 5, "{... ... A}": 5, "{......A}": 4, "{... 1}": 5, `{... "A"}`: 5, `{... "on" A {a}}`: 5, "{... $A}": 5, "{... : A}": 5, "{... [A]}": 5, "{... ! }": 5, "{... {": 6, "{... {a": 7, "{... {}}": 6,
	} {
		wantNoSels(t, s, impl.FtSyntax, at)
		wantSelsAsOracle(t, s)
	}
	for _, gap := range append([]string{" "}, allGaps...) {
		wantSels(t, "{..."+gap+"on"+gap+"A"+gap+"{a}}", inline("A", a))
		wantSels(t, "{..."+gap+"A}", spread("A"))
		wantSels(t, "{..."+gap+"{a}}", inline("", a))
		wantNoSels(t, "{..."+gap+"}", impl.FtSyntax, 4+len(gap))
		wantNoSels(t, "{..."+gap+"on"+gap+"{a}}", impl.FtSyntax, 6+2*len(gap))
		wantNoSels(t, "{..."+gap+"A"+gap+"{a}}", impl.FtSyntax, 5+2*len(gap))
	}
	for _, tokens := range [][]string{{"..."}, {"...", "on"}, {"...", "on", "A"}, {"...", "A"}, {"...", "@", "d"}, {"...", "A", "@", "d"}, {"...", "on", "A", "@", "d"}, {"...", "on", "@", "d"}} {
		for _, behind := range slices.Concat(allSigns, []string{"", "{a}", "{a}}", "a", "on", "on A", "1", "2.5", `"x"`, "(e: 1)", "@d", "@d {a}", ": a", "...A", "... {a}"}) {
			wantSelsAsOracle(t, "{"+strings.Join(tokens, " ")+" "+behind)
			wantSelsAsOracle(t, "{"+strings.Join(tokens, " ")+" "+behind+"}")
			wantSelsAsOracle(t, "{a{"+strings.Join(tokens, " ")+" "+behind+"} b}")
		}
	}
}

func TestWhatIsHandedToFields(t *testing.T) {
	a, b := field("a"), field("b")
	e, two := arg("e", handedOne), arg("f", handedVar)
	wantSels(t, "{a(e: 1)}", given(a, e))
	wantSels(t, "{a(e: 1, f: $v) b}", given(a, e, two), b)
	wantSels(t, "{a @d}", directed(a, dir("d")))
	wantSels(t, "{a @d @c b}", directed(a, dir("d"), dir("c")), b)
	wantSels(t, "{a(e: 1) @d}", directed(given(a, e), dir("d")))
	wantSels(t, "{a(e: 1) @d(f: $v)}", directed(given(a, e), dir("d", two)))
	wantSels(t, "{a(e: 1) @d(f: $v) {b}}", directed(given(field("a", b), e), dir("d", two)))
	// Behind a directive, brackets are its own.
	wantSels(t, "{a @d (e: 1)}", directed(a, dir("d", e)))
	wantSels(t, "{a @d (e: 1) {b}}", directed(field("a", b), dir("d", e)))
	wantSels(t, "{a (e: 1) @d (f: $v)}", directed(given(a, e), dir("d", two)))
	wantSels(t, "{a(e: {f: [$v]}) {b}}", given(field("a", b), arg("e", objectOf("f", listOf(handedVar)))))
	wantSels(t, "{a(e: a) a}", given(a, arg("e", val(impl.VlEnum, "a"))), a)
	for s, at := range map[string]int{
		"{a()}": 3, "{a( )}": 4, "{a(,)}": 4, "{a() @d}": 3, "{a(){b}}": 3, "{a:b()}": 5, "{a @d()}": 6, "{a(e: 1) @d()}": 12, "{a{b()}}": 5, "{()}": 1, "{a()()}": 3,
		"{a(e: 1)(f: 2)}": 8, "{a(e: 1)()}": 8, "{a @d(e: 1)(f: 2)}": 11, "{a @d(e: 1) (f: 2) {b}}": 12, "{a {b} (e: 1)}": 7, "{a {b} @d}": 7, "{a(e: 1) {b} @d}": 13, "{a {b}(e: 1) @d}": 6,
		"{a(e)}": 4, "{a(e:)}": 5, "{a(e: }": 6, "{a(e: 1}": 7, "{a(e: 1": 7, "{a(": 3, "{a(}": 3, "{a(e 1)}": 5, "{a(1)}": 3, "{a(:)}": 3, "{a(e: 1 2)}": 8, "{a(e: $)}": 7, "{a(e: [1)}": 8, "{a(e: {f: 1)}": 11, "{a(e: @d)}": 6, "{a(e: 1 @d)}": 8, "{a(...)}": 3, "{a(e: ...)}": 6, "{a(b)}": 4, "{a(b{c})}": 4,
		"{a @}": 4, "{a @": 4, "{a @ @d}": 5, "{a @1}": 4, "{a @d @}": 7, "{a @{b}}": 4, "{a @(e: 1)}": 4, "{a @...}": 4, "{a @d:}": 5, "{a @d e: }": 9, "{@d}": 1, "{@d a}": 1, "{(e: 1)}": 1, "{(e: 1) a}": 1, "{a: @d b}": 4, "{a: (e: 1) b}": 4, "{a @d : b}": 6, "{a(e: 1) : b}": 9,
	} {
		wantNoSels(t, s, impl.FtSyntax, at)
		wantSelsAsOracle(t, s)
	}
	// A value that goes too deep is a fault of its own, wherever its field stands.
	for _, open := range tenOpen {
		open = strings.TrimPrefix(open, "\xef\xbb\xbf")
		for _, ahead := range []string{"{a(b:", "{a:b(c: 1, d:", "{a @d(e:", "{...A @d(e:", "{... @d(e:", "{...on A @d(e:", "{a{b{c{d(e:", strings.Repeat("{a", 10) + "(b:"} {
			for _, sign := range []string{"[", "{"} {
				wantNoSels(t, ahead+open+sign+"1", impl.FtDeep, len(ahead+open))
			}
			wantNoSels(t, ahead+open, impl.FtSyntax, len(ahead+open))
		}
	}
}

// Each text has ten braces open behind it, in which a selection has begun that may have a brace of its own.
var tenBraces = []string{
	strings.Repeat("{a", 10), strings.Repeat("{ a ", 10), strings.Repeat("{...", 10), strings.Repeat("{... on A", 10), strings.Repeat("{a{...", 5), strings.Repeat("{...{a:b", 5), strings.Repeat("{a(b:{c:[{}]})", 10), strings.Repeat("{a@d", 10), strings.Repeat("{...@d", 10), strings.Repeat("{...on A@d(e:1)", 10),
	strings.Repeat("{b{c}...{d}a", 9) + "{a", strings.Repeat("{b ...c a", 10), "\xef\xbb\xbf" + strings.Repeat("{a#é€😀\n", 10), strings.Repeat("{\n\ta:\r\na", 10), strings.Repeat(`{a(b:"é")`, 10), strings.Repeat("{b{b{b}}a", 8) + "{a{a",
}

func TestElevenBraces(t *testing.T) {
	behind := []string{"", " ", "#", "}", "a", "a}", "}}}}}}}}}}}", "a}}}}}}}}}}}", "{", "{{{", "...", "1", ":", "$x", `"a"`, "(", "@", "a}}}}}}}}}}} a"}
	for _, open := range tenBraces {
		for _, gap := range []string{"", " ", "\n", "#€\n", ",,"} {
			for _, rest := range behind {
				wantNoSels(t, open+gap+"{"+rest, impl.FtDeep, len(open+gap))
			}
		}
		wantNoSels(t, open, impl.FtSyntax, len(open))
		wantSelsAsOracle(t, open+"}}}}}}}}}}")
		wantSelsAsOracle(t, open+" a}}}}}}}}}}")
	}
	for many := 1; many <= 15; many++ {
		s := strings.Repeat("{a", many) + strings.Repeat("}", many)
		if many <= 10 {
			wantSels(t, s, chain(field("a"), many, inField))
		} else {
			wantNoSels(t, s, impl.FtDeep, 20)
		}
	}
	// Those that are shut count for nothing, and braces of values neither.
	wantSels(t, "{"+strings.Repeat("a{b}", 30)+"}", slices.Repeat([]impl.Sel{field("a", field("b"))}, 30)...)
	nine := chain(field("a"), 9, inField)
	inner := strings.Repeat("{a", 9) + strings.Repeat("}", 9)
	wantSels(t, "{b"+inner+"c"+inner+"}", field("b", nine), field("c", nine))
	deepest := strings.Repeat("{a", 9) + "{a(b:" + strings.Repeat("{c:", 10) + "1" + strings.Repeat("}", 10) + ")" + strings.Repeat("}", 10)
	wantSels(t, deepest, chain(given(field("a"), arg("b", within(handedOne, 10, func(v impl.Value) impl.Value { return objectOf("c", v) }))), 10, inField))
	// Where no brace may stand it is no deep one.
	for s, at := range map[string]int{strings.Repeat("{a", 9) + "{...b{": 23, strings.Repeat("{a", 9) + "{...b@d{": 25, strings.Repeat("{a", 9) + "{{": 19, strings.Repeat("{a", 9) + "{a:{": 21, strings.Repeat("{a", 9) + "{...on{": 24, strings.Repeat("{a", 10) + "}{": 21, strings.Repeat("{a", 10) + "@{": 21, strings.Repeat("{a", 10) + "({": 21, strings.Repeat("{a", 9) + "{...on A": 26, "{a{a{a:{a{a{a{a{a{a{a{a": 7, "{{a{a{a{a{a{a{a{a{a{a": 1, "{a} " + strings.Repeat("{a", 11): 4} {
		wantNoSels(t, s, impl.FtSyntax, at)
		wantSelsAsOracle(t, s)
	}
}

func TestManySelectionsThatAreRead(t *testing.T) {
	a := field("a")
	for _, one := range []struct {
		text string
		sel  impl.Sel
	}{{"a ", a}, {"a:b ", aliased("a", field("b"))}, {"...a ", spread("a")}, {"a(b:1)@d ", directed(given(a, oneGiven...), oneDir...)}} {
		wantSels(t, "{"+strings.Repeat(one.text, 120)+"}", slices.Repeat([]impl.Sel{one.sel}, 120)...)
		wantNoSels(t, "{"+strings.Repeat(one.text, 121)+"}", impl.FtMany, 1+120*len(one.text))
		wantNoSels(t, "{"+strings.Repeat(one.text, 250)+"}", impl.FtMany, 1+120*len(one.text))
		ahead := "{" + strings.Repeat(one.text, 120)
		for _, gap := range append([]string{""}, allGaps...) {
			for _, behind := range []string{"a", "a}", "a:b}", "a: }", "a(", "a{", "a{{", "a a", "...", "...}", "...a}", "... on A{a}}", "...{a}}", "... 1", "on", "true}", "a # é"} {
				wantNoSels(t, ahead+gap+behind, impl.FtMany, len(ahead+gap))
			}
			wantNoSels(t, ahead+gap, impl.FtSyntax, len(ahead+gap))
			wantSels(t, ahead+gap+"}"+gap, slices.Repeat([]impl.Sel{one.sel}, 120)...)
			for _, behind := range []string{"1", `"a"`, "$", "!", ")", "|"} {
				wantNoSels(t, ahead+gap+behind+" a", impl.FtSyntax, len(ahead+gap))
			}
			wantNoSels(t, ahead+gap+"} a", impl.FtSyntax, len(ahead+gap)+2)
		}
	}
	// An Alias and its field are one, and so are `...` and what stands behind it.
	wantSels(t, "{"+strings.Repeat("...on A{a}", 60)+"}", slices.Repeat([]impl.Sel{inline("A", a)}, 60)...)
	wantNoSels(t, "{"+strings.Repeat("...on A{a}", 60)+"a}", impl.FtMany, 601)
	wantNoSels(t, "{"+strings.Repeat("...on A{a}", 59)+"a ...on A{a}}", impl.FtMany, 601)
	wantSels(t, "{"+strings.Repeat("...{a}", 60)+"}", slices.Repeat([]impl.Sel{inline("", a)}, 60)...)
	wantNoSels(t, "{"+strings.Repeat("...{a}", 60)+"...{a}}", impl.FtMany, 361)
	wantSels(t, "{"+strings.Repeat("a{a a}", 40)+"}", slices.Repeat([]impl.Sel{field("a", a, a)}, 40)...)
	wantNoSels(t, "{"+strings.Repeat("a{a a}", 39)+"a{a a a}}", impl.FtMany, 1+39*6+6)
	wantNoSels(t, "{"+strings.Repeat("a{a a}", 40)+"...a}", impl.FtMany, 241)
	ten := strings.Repeat("{a", 10)
	wantSels(t, ten+strings.Repeat(" a", 110)+strings.Repeat("}", 10), chain(field("a", append([]impl.Sel{a}, slices.Repeat([]impl.Sel{a}, 110)...)...), 9, inField))
	wantNoSels(t, ten+strings.Repeat(" a", 111), impl.FtMany, 20+2*110+1)
	wantNoSels(t, ten+strings.Repeat(" a", 110)+"{a", impl.FtDeep, 20+2*110)
	wantNoSels(t, ten+strings.Repeat(" a", 111)+"{a", impl.FtMany, 20+2*110+1)
	wantNoSels(t, "{"+strings.Repeat("a ", 119)+"...b{a}", impl.FtSyntax, 1+2*119+4)
	wantNoSels(t, "{"+strings.Repeat("a ", 118)+"... on A{a}b}", impl.FtMany, 1+2*118+11)
	// Names that are no selections count for nothing.
	wantSels(t, "{"+strings.Repeat("a:b(c:d e:f)@i(j:k)@l ", 120)+"}", slices.Repeat([]impl.Sel{directed(given(aliased("a", field("b")), arg("c", val(impl.VlEnum, "d")), arg("e", val(impl.VlEnum, "f"))), dir("i", arg("j", val(impl.VlEnum, "k"))), dir("l"))}, 120)...)
}

func TestFaultsOfTokensCountFirstInSelections(t *testing.T) {
	deep := strings.Repeat("{a", 10) + "{"
	many := "{" + strings.Repeat("a ", 121)
	for broken, code := range brokenPieces {
		more := 0
		if code == impl.FtText {
			more = firstNoScalar(broken)
		}
		for _, ahead := range []string{
			"", " ", "{", "{a ", "{a:", "{a: b ", "{... ", "{...a ", "{... on ", "{... on A ", "{... on A {", "{a(", "{a(b:", "{a(b: 1) ", "{a @", "{a @d ", "{a{b} ", "{a} ",
			"a ", "1 ", "} ", "{} ", "{{ ", "{a{} ", "{a: : ", "{a: b: ", "{a() ", "{... } ", "{...a{ ", "{... on { ", "{a}} ", "{a} b ", "{a(b: 1)( ", "{: ", "{@ ",
			deep, deep + "} ", many, many + "} ", "#é\n", `{a(b: "€") `, "\xef\xbb\xbf",
		} {
			wantNoSels(t, ahead+broken, code, len(ahead)+more)
			for _, behind := range []string{" ", "\n}", "\na", "\n{", "\n:", "\n()", "\n%", "\n01", "\n" + deep, "\n" + many, "\n\""} {
				wantSelsAsOracle(t, ahead+broken+behind)
			}
		}
	}
	wantNoSels(t, "{} %", impl.FtSign, 3)
	wantNoSels(t, "% {}", impl.FtSign, 0)
	wantNoSels(t, "{a: } 01 %", impl.FtNumber, 6)
	wantNoSels(t, "{} \" %", impl.FtString, 3)
	wantNoSels(t, "{} 01 \xff", impl.FtText, 6)
	wantNoSels(t, many+"%", impl.FtSign, len(many))
	wantNoSels(t, deep+"%", impl.FtSign, len(deep))
	for _, wrong := range wrongTexts {
		for _, ahead := range []string{"", "{", "{a", "{a}", "{}", "{a:", "{...", deep, many, "%", "#", "é"} {
			wantNoSels(t, ahead+wrong, impl.FtText, len(ahead)+firstNoScalar(wrong))
		}
	}
}

func TestPlacesOfFaultsInSelections(t *testing.T) {
	for s, at := range map[string]int{
		"#é€😀\n{}": 12, "#é\na": 4, "{#€\n}": 6, "  {  a  )": 8, "\xef\xbb\xbfa": 3, "\xef\xbb\xbf{}": 4, "{a #é\n\n : : b}": 11, "{#😀\na#é\n:}": 13, " ,\n\r\n}": 5, `{a(b: "é")(`: 11, `{a(b: "€") :}`: 13, `{a(b: "😀"){}}`: 14, `{a(b: """é€😀""") 1}`: 23, "{a(b: \"\\u00e9\") 1}": 16, "{a,,,,:,,}": 9, "{...\r\n\t}": 7, "{...#é\non#€\n{a}}": 15, "{...a#😀\n{b}}": 11, "{a}#é\n}": 7, "{a{b}#€\n:c}": 10,
	} {
		wantNoSels(t, s, impl.FtSyntax, at)
		wantSelsAsOracle(t, s)
	}
	for _, s := range []string{"{", "{ ", "{ #é", "{a", "{a #é€😀", "{a:", "{a: \n", "{a:b", "{...", "{... ,,", "{...on", "{...on A", "{...on A \t", "{...a", "{...a\r\n", "{a{", "{a{b", "{a{b}", "{a{b} #}", "{a(b: \"é\"", "{a(b: \"é\")", "{a @", "{a @d #", "\xef\xbb\xbf{", "\xef\xbb\xbf{a #😀\n#€"} {
		wantNoSels(t, s, impl.FtSyntax, len(s))
	}
	ten := strings.Repeat("{a", 10)
	many := strings.Repeat("a ", 120)
	for _, gap := range allGaps {
		wantNoSels(t, gap+"{"+gap+"a"+gap, impl.FtSyntax, 2+3*len(gap))
		wantNoSels(t, gap+"{"+gap+"a"+gap+":"+gap+"}", impl.FtSyntax, 3+4*len(gap))
		wantNoSels(t, gap+"{"+gap+"a"+gap+"}"+gap+"}", impl.FtSyntax, 3+4*len(gap))
		wantNoSels(t, gap+ten+gap+"{", impl.FtDeep, 20+2*len(gap))
		wantNoSels(t, gap+"{"+gap+many+gap+"a", impl.FtMany, 241+3*len(gap))
		wantNoSels(t, gap+"{"+gap+many+gap+"..."+gap+"a", impl.FtMany, 241+3*len(gap))
	}
}

func TestSelectionsThatAreCutShort(t *testing.T) {
	for _, list := range [][]impl.Sel{
		{field("a")}, {field("a"), field("b")}, {aliased("a", field("b"))}, {spread("a"), spread("b", dir("c"))}, {inline("", field("a"))}, {inline("A", field("a")), field("b")},
		{directed(given(aliased("a", field("b", field("c", field("d")), spread("e"), inline("F", field("g")))), arg("h", handedVar), arg("i", listOf(handedOne, objectOf("j", handedText)))), dir("k"), dir("l", arg("m", handedOne))), field("n")},
		{chain(field("z"), 10, inField, inInline)},
	} {
		pieces := selPieces(list)
		for many := range pieces {
			for _, gap := range slices.Concat([]string{""}, allGaps, []string{"#", "# a", " #é€", "#\n#}"}) {
				s := strings.Join(pieces[:many], " ") + gap
				wantNoSels(t, s, impl.FtSyntax, len(s))
			}
		}
		wantSels(t, strings.Join(pieces, " "), list...)
	}
}

func TestSelectionsInSourcesAtTheirLimits(t *testing.T) {
	for s, list := range map[string][]impl.Sel{"{a}": {field("a")}, "{a:b ...c}": {aliased("a", field("b")), spread("c")}, "{a{b}}": {field("a", field("b"))}} {
		wantSels(t, s+strings.Repeat(" ", 12000-len(s)), list...)
		wantSels(t, strings.Repeat("\n", 12000-len(s))+s, list...)
		wantSels(t, s+"#"+strings.Repeat("a", 11999-len(s)), list...)
		wantNoSels(t, s+strings.Repeat(" ", 12001-len(s)), impl.FtLong, 0)
		wantNoSels(t, strings.Repeat("\n", 12001-len(s))+s, impl.FtLong, 0)
	}
	wantNoSels(t, "{"+strings.Repeat(" ", 11999), impl.FtSyntax, 12000)
	wantNoSels(t, strings.Repeat(" ", 11999)+"}", impl.FtSyntax, 11999)
	wantNoSels(t, strings.Repeat("{", 12001), impl.FtLong, 0)
	wantNoSels(t, strings.Repeat("\xff", 12001), impl.FtLong, 0)
	wantNoSels(t, strings.Repeat("\xff", 12000), impl.FtText, 0)
	wantNoSels(t, strings.Repeat("{", 2500), impl.FtSyntax, 1)
	wantNoSels(t, strings.Repeat("{", 2501), impl.FtMany, 2500)
	// 2500 tokens: nine, three for each Arg, and one more name.
	most := "a(" + strings.Repeat("b:1 ", 830) + ")}"
	handed := given(field("a"), slices.Repeat([]impl.Arg{arg("b", handedOne)}, 830)...)
	wantSels(t, "{a:c b d "+most, aliased("a", field("c")), field("b"), field("d"), handed)
	wantNoSels(t, "{a:c b d e "+most, impl.FtMany, len("{a:c b d e "+most)-1)
	wantNoSels(t, "{a:c b d "+most+"}", impl.FtMany, len("{a:c b d "+most))
	// Too many tokens count ahead of too many selections.
	wantNoSels(t, "{"+strings.Repeat("a ", 2499), impl.FtMany, 241)
	wantNoSels(t, "{"+strings.Repeat("a ", 2500), impl.FtMany, 4999)
	// Right ones whose text is longer than a source may be, or of more tokens, do not come back.
	long := given(field("a"), slices.Repeat([]impl.Arg{arg("b", val(impl.VlString, strings.Repeat("a", 200)))}, 60)...)
	wantNoSels(t, "{"+impl.SelsText([]impl.Sel{long}, 0)+"}", impl.FtLong, 0)
	wide := given(field("a"), slices.Repeat([]impl.Arg{arg("b", handedOne)}, 840)...)
	if _, fault := impl.ReadSels("{" + impl.SelsText([]impl.Sel{wide}, 0) + "}"); fault.Code != impl.FtMany {
		t.Errorf("%v", fault)
	}
}

func TestEveryShortTextOfSelections(t *testing.T) {
	eachText([]string{"{", "}", "a ", "on ", ":", "...", "@d "}, 6, func(s string) { wantSelsAsOracle(t, s) })
	eachText([]string{"{", "}", "a ", "on ", "true ", ":", "...", "@", "(", ")", "1 ", "1.5 ", `"a"`, "[", "]", "$", "!", "% ", "01 ", "#é\n"}, 3, func(s string) { wantSelsAsOracle(t, s) })
	for _, open := range []string{"{", "{a", "{a:", "{a:b", "{...", "{...on ", "{...on A ", "{...A ", "{a(b:1)", "{a@d ", "{a{", "{a{b", "{a{b}", "{...{", "{...{a}", "{a}", "{a(", "{a(b:", "{a{a{a{a{a{a{a{a{a{a", "{a{a{a{a{a{a{a{a{a{...", "{" + strings.Repeat("a ", 119), "{a{a{" + strings.Repeat("a ", 117)} {
		eachText([]string{"{", "}", "a ", "on ", ":", "...", "@d ", "(b:1)", "1 "}, 4, func(s string) { wantSelsAsOracle(t, open+s) })
	}
	for _, open := range []string{"{a", "{a:b", "{...A", "{...", "{...on A", "{a@d"} {
		eachText([]string{"@", "a ", "(", ")", ":", "1 ", "$", "{", "}", "[", "]"}, 4, func(s string) { wantSelsAsOracle(t, open+s) })
	}
}

func TestEachPieceOfSelectionsLeftOutChangedOrTwice(t *testing.T) {
	others := slices.Concat(allSigns, []string{"1", "2.5", `"z"`, `"""z"""`, "z", "on", "true", "%", "01", `"`})
	for _, list := range [][]impl.Sel{
		{aliased("a", given(field("b", field("c"), spread("d", dir("e"))), arg("f", handedOne), arg("g", handedVar))), field("h")},
		{inline("", field("a")), directed(inline("A", aliased("b", field("c")), inline("", spread("d"))), dir("e", arg("f", objectOf("g", listOf(handedText)))), dir("h")), spread("i")},
		{chain(field("z"), 10, inField, inInline)},
		{field("on", aliased("on", field("on"))), inline("on", field("true"))},
	} {
		pieces := selPieces(list)
		for at := range pieces {
			wantSelsAsOracle(t, strings.Join(slices.Delete(slices.Clone(pieces), at, at+1), " "))
			for _, other := range append([]string{pieces[at]}, others...) {
				changed := slices.Clone(pieces)
				changed[at] = other
				wantSelsAsOracle(t, strings.Join(changed, " "))
				wantSelsAsOracle(t, strings.Join(slices.Insert(slices.Clone(pieces), at, other), " "))
			}
		}
		for i := range pieces {
			for j := range i {
				changed := slices.Clone(pieces)
				changed[i], changed[j] = changed[j], changed[i]
				wantSelsAsOracle(t, strings.Join(changed, " "))
			}
		}
	}
}

func TestEveryByteInATextOfSelections(t *testing.T) {
	for _, s := range []string{`{a: b(c: 1) @d {e ...F ... on G {h}}}`, "{...{a}}", "{a b{c}}"} {
		for at := range len(s) + 1 {
			for b := range 256 {
				wantSelsAsOracle(t, s[:at]+string([]byte{byte(b)})+s[at:])
				if at < len(s) {
					wantSelsAsOracle(t, s[:at]+string([]byte{byte(b)})+s[at+1:])
				}
			}
		}
	}
}

// What is read is right, and comes back from its own text, however it was written.
func TestSelectionsThatAreReadAreRight(t *testing.T) {
	many := 0
	see := func(s string) {
		list, fault := impl.ReadSels(s)
		if fault.Code != 0 {
			return
		}
		many++
		for _, one := range impl.AllSels(list) {
			if !impl.SelOk(one) {
				t.Errorf("ReadSels(%q): %s", s, shownSels(list))
			}
		}
		wantSels(t, "{"+impl.SelsText(list, 0)+"}", list...)
	}
	eachText([]string{"a ", "on ", "...", ":", "{", "}", "@d "}, 5, func(s string) {
		see("{" + s + "}")
		see("{a{" + s + "}}")
		see("{a ..." + s + "}")
	})
	if many < 500 {
		t.Errorf("%d texts were read", many)
	}
}

func TestAllSelectionsAreTold(t *testing.T) {
	a, b, c, d := field("a"), aliased("x", field("b")), spread("c"), given(field("d"), oneGiven...)
	wantAllSels(t, nil)
	wantAllSels(t, []impl.Sel{})
	if got := impl.AllSels(make([]impl.Sel, 0, 5)); len(got) != 0 {
		t.Errorf("%s", shownSels(got))
	}
	wantAllSels(t, []impl.Sel{a}, a)
	wantAllSels(t, []impl.Sel{a, b, c, d}, a, b, c, d)
	wantAllSels(t, []impl.Sel{d, c, b, a}, d, c, b, a)
	wantAllSels(t, []impl.Sel{a, a, b, a}, a, a, b, a)
	wantAllSels(t, []impl.Sel{field("e", a)}, field("e", a), a)
	wantAllSels(t, []impl.Sel{field("e", a, b), c}, field("e", a, b), a, b, c)
	wantAllSels(t, []impl.Sel{a, field("e", b), inline("F", c, d), a}, a, field("e", b), b, inline("F", c, d), c, d, a)
	wantAllSels(t, []impl.Sel{field("e", field("f", a, b), c), d}, field("e", field("f", a, b), c), field("f", a, b), a, b, c, d)
	wantAllSels(t, []impl.Sel{inline("", inline("", inline("", a), a), a), a}, inline("", inline("", inline("", a), a), a), inline("", inline("", a), a), inline("", a), a, a, a, a)
	for many := range 130 {
		flat := slices.Repeat([]impl.Sel{a}, many)
		wantAllSels(t, flat, flat...)
	}
	list, _ := impl.ReadSels("{a: b(c: 1) @d {e ...F ... on G {h}} i}")
	names := []string{}
	for _, s := range impl.AllSels(list) {
		names = append(names, s.Name+s.On)
	}
	if got := strings.Join(names, " "); got != "b e F G h i" {
		t.Errorf("%q", got)
	}
}

// What is not right is told, too, with all that it has: AllSels asks for no more than that it is there.
func TestAllSelectionsOfWhatIsNotRight(t *testing.T) {
	odd := impl.Sel{Kind: 77, Alias: "1", Name: "", On: "\xff", Args: []impl.Arg{{}, arg("a", impl.Value{Kind: impl.VlInt, Items: []impl.Value{handedOne}, Names: []string{"", "b"}})}, Dirs: []impl.Dir{{}, dir("", impl.Arg{})}, Sels: []impl.Sel{{}, aliased("a", spread("on"))}}
	wantAllSels(t, []impl.Sel{odd}, odd, impl.Sel{}, odd.Sels[1])
	wantAllSels(t, []impl.Sel{{}}, impl.Sel{})
	wantAllSels(t, []impl.Sel{{}, {}, {}}, impl.Sel{}, impl.Sel{}, impl.Sel{})
	s := spread("a")
	s.Sels = []impl.Sel{field("b", odd), {}}
	wantAllSels(t, []impl.Sel{s, odd}, s, field("b", odd), odd, impl.Sel{}, odd.Sels[1], impl.Sel{}, odd, impl.Sel{}, odd.Sels[1])
	for kind := range 5 {
		for _, s := range everyMix(kind) {
			wantAllSels(t, []impl.Sel{s}, allSelsOracle([]impl.Sel{s})...)
		}
	}
	eleven := chain(field("z"), 30, inField)
	wantAllSels(t, []impl.Sel{eleven}, allSelsOracle([]impl.Sel{eleven})...)
	if got := impl.AllSels(slices.Repeat([]impl.Sel{field("a", field("b"))}, 5000)); len(got) != 10000 || got[9999].Name != "b" || got[9998].Name != "a" {
		t.Errorf("%d", len(got))
	}
}

// A stack of calls that went as deep as these would be refused, and with it all tests.
func TestSelectionsDeeperThanCallsCanGo(t *testing.T) {
	defer debug.SetMaxStack(debug.SetMaxStack(256 << 10))
	deep := chain(field("z"), 200000, inField, inInline)
	wide := field("a", field("b"), deep, field("c"))
	for _, s := range []impl.Sel{deep, wide} {
		if impl.SelOk(s) || impl.SelsText([]impl.Sel{field("a"), s}, 0) != "" || impl.KeyOf(s) == "z" {
			t.Error("what is very deep is right")
		}
	}
	value := within(handedVar, 200000, inList, inObject)
	s := given(field("a"), arg("b", value))
	if impl.SelOk(s) || impl.SelsText([]impl.Sel{s}, 0) != "" {
		t.Error("what has a very deep value is right")
	}
	all := impl.AllSels([]impl.Sel{field("e", directed(s, dir("d", arg("b", value))))})
	if len(all) != 2 || !impl.SameArgs(all[1].Args, s.Args) || !impl.SameArgs(all[1].Dirs[0].Args, s.Args) || !impl.SameArgs(all[0].Sels[0].Args, s.Args) {
		t.Error("AllSels of what has a very deep value")
	}
	all = impl.AllSels([]impl.Sel{chain(field("z"), 1500, inField)})
	if len(all) != 1500 || all[1499].Name != "z" || all[0].Name != "a" {
		t.Errorf("AllSels of what is very deep: %d", len(all))
	}
	// What holds itself is not right, for it is deeper than any that is, and there are more of it.
	ring := []impl.Sel{inline("", field("a")), field("b")}
	ring[0].Sels = ring
	if impl.SelOk(ring[0]) || impl.SelsText(ring, 0) != "" || impl.SelOk(field("a", ring...)) || impl.KeyOf(ring[0]) != "" {
		t.Error("what holds itself is right")
	}
	ring = []impl.Sel{field("a")}
	ring[0].Sels = ring
	if impl.SelOk(ring[0]) || impl.SelsText(ring, 20) != "" || impl.KeyOf(ring[0]) != "a" {
		t.Error("what holds itself is right")
	}
	values := []impl.Value{{Kind: impl.VlList}}
	values[0].Items = values
	if impl.SelOk(given(field("a"), arg("a", values[0]))) || impl.SelOk(spread("a", dir("b", arg("a", values[0])))) {
		t.Error("what has a value that holds itself is right")
	}
}

func TestKeysOfSelections(t *testing.T) {
	for _, one := range []struct {
		s   impl.Sel
		key string
	}{
		{field("a"), "a"}, {aliased("x", field("a")), "x"}, {aliased("a", field("a")), "a"}, {field("a", field("b")), "a"}, {aliased("x", field("a", aliased("y", field("b")))), "x"},
		{directed(given(aliased("x", field("a")), oneGiven...), oneDir...), "x"}, {field("on"), "on"}, {aliased("on", field("a")), "on"},
		{spread("a"), ""}, {aliased("x", spread("a")), ""}, {inline("A", field("b")), ""}, {inline("", field("b")), ""}, {aliased("x", inline("A", field("b"))), ""}, {impl.Sel{Kind: impl.SlInline, Name: "a", Alias: "x"}, ""},
		// Nothing but its kind is looked at beside these two.
		{impl.Sel{}, ""}, {field(""), ""}, {aliased("x", field("")), "x"}, {aliased("1", field("a")), "1"}, {field("a b"), "a b"}, {aliased(" ", field("a")), " "}, {impl.Sel{Kind: impl.SlField, On: "A"}, ""}, {impl.Sel{Kind: impl.SlField, Name: "a", On: "A"}, "a"}, {field(tooLongName), tooLongName}, {field("\xff"), "\xff"}, {aliased("\x00", field("a")), "\x00"}, {given(field("a"), impl.Arg{}), "a"}, {field("a", impl.Sel{}), "a"},
	} {
		if got := impl.KeyOf(one.s); got != one.key {
			t.Errorf("KeyOf(%s): %q, want %q", shownSels([]impl.Sel{one.s}), got, one.key)
		}
	}
	for _, kind := range append([]int{2, 3, 4}, noKinds...) {
		for _, s := range []impl.Sel{field("a"), aliased("x", field("a")), {}} {
			s.Kind = kind
			if got := impl.KeyOf(s); got != "" {
				t.Errorf("KeyOf(%s): %q", shownSels([]impl.Sel{s}), got)
			}
		}
	}
	list, _ := impl.ReadSels("{a b:c ...d ...on E{f} g:h{i:j}}")
	keys := []string{}
	for _, s := range impl.AllSels(list) {
		keys = append(keys, impl.KeyOf(s))
	}
	if !slices.Equal(keys, []string{"a", "b", "", "", "f", "g", "i"}) {
		t.Errorf("%q", keys)
	}
}

// selsWithRoom is the same list, with room behind it, and behind each list in it, in which something stands already.
func selsWithRoom(list []impl.Sel) []impl.Sel {
	sels := []impl.Sel{}
	for _, s := range list {
		s.Args, s.Dirs, s.Sels = argsWithRoom(s.Args), dirsWithRoom(s.Dirs), selsWithRoom(s.Sels)
		sels = append(sels, s)
	}
	return append(sels, field("room1"), field("room2"))[:len(list)]
}

func wholeOfSels(list []impl.Sel) string {
	text := fmt.Sprint(len(list))
	for _, s := range list[:cap(list)] {
		text += fmt.Sprintf(" <%d %q %q %q %s %s %s>", s.Kind, s.Alias, s.Name, s.On, wholeOfArgs(s.Args), wholeOfDirs(s.Dirs), wholeOfSels(s.Sels))
	}
	return text
}

var sharingLists = func() [][]impl.Sel {
	args := []impl.Arg{arg("a", listOf(handedOne, objectOf("x y", handedVar, listOf(handedText)))), arg("b", objectOf("z", handedOne))}
	dirs := []impl.Dir{dir("d", args...), dir("e"), dir("f", args...)}
	inner := []impl.Sel{directed(given(field("a"), args...), dirs...), spread("b", dirs...), field("c", field("d"))}
	return [][]impl.Sel{
		{}, {{}}, {field("a")}, inner, {field("a", inner...), inline("B", inner...), directed(given(field("c", field("d", inner...)), args...), dirs...)},
		{aliased("1", spread("on")), {Kind: 77, Args: args, Dirs: dirs, Sels: inner}, inline(""), given(inline("A", inner...), args...)}, {chain(directed(given(field("z"), args...), dirs...), 11, inField)},
		{{Kind: impl.SlField, Name: "a", Args: []impl.Arg{}, Dirs: []impl.Dir{}, Sels: []impl.Sel{}}}, {given(field("a"), arg("b", impl.Value{Kind: impl.VlVar, Items: args[0].Value.Items, Names: []string{"x", "y"}}))},
	}
}()

func TestNothingIsWrittenIntoSelections(t *testing.T) {
	for _, list := range sharingLists {
		held := selsWithRoom(list)
		ahead := wholeOfSels(held)
		for range 2 {
			for _, by := range []int{0, 1, 19, 20, 21, -1} {
				impl.SelsText(held, by)
			}
			all := impl.AllSels(held)
			for i := range all {
				all[i] = impl.Sel{Kind: 78}
			}
			_ = append(all, impl.Sel{}, impl.Sel{})
			for _, s := range held {
				impl.SelOk(s)
				impl.KeyOf(s)
			}
		}
		if got := wholeOfSels(held); got != ahead {
			t.Errorf("%s has become %s", ahead, got)
		}
	}
}

type span struct {
	from, to uintptr
	what     string
}

// spansOf has the memory of each list in a value, with the room behind it.
func spansOf(v reflect.Value, what string) []span {
	spans := []span{}
	switch v.Kind() {
	case reflect.Slice:
		if v.Cap() > 0 {
			spans = append(spans, span{v.Pointer(), v.Pointer() + uintptr(v.Cap())*v.Type().Elem().Size(), what})
		}
		for i := range v.Len() {
			spans = append(spans, spansOf(v.Index(i), fmt.Sprintf("%s[%d]", what, i))...)
		}
	case reflect.Struct:
		for i := range v.NumField() {
			spans = append(spans, spansOf(v.Field(i), what+"."+v.Type().Field(i).Name)...)
		}
	}
	return spans
}

func wantApart(t *testing.T, answer any, arguments any) {
	t.Helper()
	mine, theirs := spansOf(reflect.ValueOf(answer), "answer"), spansOf(reflect.ValueOf(arguments), "argument")
	for i, one := range mine {
		for _, other := range slices.Concat(mine[:i], theirs) {
			if one.from < other.to && other.from < one.to {
				t.Errorf("%s and %s share memory", one.what, other.what)
			}
		}
	}
}

func TestSelectionsAreNewMemory(t *testing.T) {
	for _, list := range sharingLists {
		wantApart(t, impl.AllSels(list), list)
		held := selsWithRoom(list)
		wantApart(t, impl.AllSels(held), held)
		wantApart(t, [][]impl.Sel{impl.AllSels(held), impl.AllSels(held)}, held)
		wantAllSels(t, held, allSelsOracle(list)...)
	}
	for i, list := range manySels() {
		if i%10 != 0 {
			continue
		}
		read, _ := impl.ReadSels(strings.Join(selPieces(list), " "))
		again, _ := impl.ReadSels(strings.Join(selPieces(list), " "))
		if len(read) == 0 {
			t.Fatalf("%.300s is not read", shownSels(list))
		}
		wantApart(t, read, again)
		wantApart(t, impl.AllSels(read), read)
	}
	read, _ := impl.ReadSels("{a(b: [1 2 3], c: {d: [$e]}) @f(g: [], h: [1]) @i {j(b: [1 2]) k ...l @f(g: [1]) ...on m @n {o p q}} r{s}}")
	wantApart(t, read, impl.AllSels(read))
	// All lists of an answer, one by one, are overwritten: another answer, and what was handed in, stay as they are.
	want := shownSels(read)
	for _, s := range impl.AllSels(read) {
		overwriteDirs(s.Dirs, func(string) {})
		overwriteDirs([]impl.Dir{{Args: s.Args}}, func(string) {})
		for i := range s.Sels {
			s.Sels[i] = impl.Sel{Kind: 77}
		}
	}
	if got := shownSels(read); got != want {
		t.Errorf("%s has become %s", want, got)
	}
}

func TestReadSelsKeepsNothing(t *testing.T) {
	for range 3 {
		wantNoSels(t, strings.Repeat("{a", 11), impl.FtDeep, 20)
		wantSels(t, strings.Repeat("{a", 10)+strings.Repeat("}", 10), chain(field("a"), 10, inField))
		wantNoSels(t, "{"+strings.Repeat("a ", 121)+"}", impl.FtMany, 241)
		wantSels(t, "{"+strings.Repeat("a ", 120)+"}", slices.Repeat([]impl.Sel{field("a")}, 120)...)
		wantNoSels(t, "{a: ", impl.FtSyntax, 4)
		wantSels(t, "{a}", field("a"))
		wantNoSels(t, "{}", impl.FtSyntax, 1)
		wantAllSels(t, []impl.Sel{field("a")}, field("a"))
	}
}
