package tests

import (
	"fmt"
	"math"
	"regexp"
	"runtime/debug"
	"slices"
	"strings"
	"testing"

	"loop.example/g00964/impl"
)

// taken is what a variable tells, as a thing that a field, an input or a directive takes.
func taken(desc string, v impl.VarDef) impl.InDef {
	return impl.InDef{Name: v.Name, Desc: desc, Type: v.Type, Has: v.Has, Default: v.Default, Dirs: v.Dirs}
}

func asVariable(d impl.InDef) impl.VarDef {
	return impl.VarDef{Name: d.Name, Type: d.Type, Has: d.Has, Default: d.Default, Dirs: d.Dirs}
}

func member(desc string, name string, told impl.Type, args ...impl.InDef) impl.FieldDef {
	return impl.FieldDef{Name: name, Desc: desc, Args: args, Type: told}
}

func steeredMember(d impl.FieldDef, dirs ...impl.Dir) impl.FieldDef {
	d.Dirs = dirs
	return d
}

func choice(desc string, name string, dirs ...impl.Dir) impl.EnumDef {
	return impl.EnumDef{Name: name, Desc: desc, Dirs: dirs}
}

func root(kind int, name string) impl.Root { return impl.Root{Kind: kind, Type: name} }

func added(d impl.Def) impl.Def {
	d.Ext = true
	return d
}

func described(desc string, d impl.Def) impl.Def {
	d.Desc = desc
	return d
}

func named(d impl.Def, name string) impl.Def {
	d.Name = name
	return d
}

func faced(d impl.Def, faces ...string) impl.Def {
	d.Faces = faces
	return d
}

func fielded(d impl.Def, fields ...impl.FieldDef) impl.Def {
	d.Fields = fields
	return d
}

func fed(d impl.Def, inputs ...impl.InDef) impl.Def {
	d.Inputs = inputs
	return d
}

func valued(d impl.Def, values ...impl.EnumDef) impl.Def {
	d.Values = values
	return d
}

func rooted(d impl.Def, roots ...impl.Root) impl.Def {
	d.Roots = roots
	return d
}

func repeated(d impl.Def) impl.Def {
	d.Repeat = true
	return d
}

func steeredDef(d impl.Def, dirs ...impl.Dir) impl.Def {
	d.Dirs = dirs
	return d
}

// least has what a right definition of this kind can't be without.
func least(kind int) impl.Def {
	switch d := (impl.Def{Kind: kind, Name: "T"}); kind {
	case impl.DfDirective:
		return faced(d, "FIELD")
	case impl.DfSchema:
		return rooted(named(d, ""), root(1, "Q"))
	default:
		return d
	}
}

// bare has a kind, and the Name that this kind has, and nothing else.
func bare(kind int) impl.Def {
	d := least(kind)
	d.Faces, d.Roots = nil, nil
	return d
}

// The chapter's words, written another way, to hold the program against: what is printed, and whether it is right.
func descOracle(ahead string, desc string, behind string) (string, bool) {
	told := escapedOracle(desc)
	if desc == "" {
		return "", true
	}
	return ahead + told + behind, told != ""
}

func inOracle(d impl.InDef) (string, bool) {
	text, right := varDefOracle(asVariable(d))
	desc, ok := descOracle("", d.Desc, " ")
	return desc + text[1:], right && ok
}

func insOracle(list []impl.InDef) (string, bool) {
	texts, right := []string{}, true
	for _, d := range list {
		text, ok := inOracle(d)
		right = right && ok
		texts = append(texts, text)
	}
	return strings.TrimSuffix("("+strings.Join(texts, ", ")+")", "()"), right
}

func fieldOracle(d impl.FieldDef) (string, bool) {
	desc, described := descOracle("  ", d.Desc, "\n")
	args, handed := insOracle(d.Args)
	dirs, steered := dirsOracle(d.Dirs)
	text := fmt.Sprintf("%s  %s%s: %s%s\n", desc, d.Name, args, typeTextOracle(d.Type), dirs)
	return text, described && handed && steered && constOracle(d.Dirs) && nameOracle(d.Name) && typeOkOracle(d.Type)
}

func choiceOracle(d impl.EnumDef) (string, bool) {
	desc, described := descOracle("  ", d.Desc, "\n")
	dirs, steered := dirsOracle(d.Dirs)
	word := slices.Contains([]string{"true", "false", "null"}, d.Name)
	return fmt.Sprintf("%s  %s%s\n", desc, d.Name, dirs), described && steered && constOracle(d.Dirs) && nameOracle(d.Name) && !word
}

func rootOracle(r impl.Root) (string, bool) {
	return fmt.Sprintf("  %s: %s\n", wordKinds[r.Kind], r.Type), wordKinds[r.Kind] != "" && nameOracle(r.Type)
}

// linesOracle has the lines of all that stands between the braces.
func linesOracle(d impl.Def) (string, bool) {
	lines, right := "", true
	add := func(text string, ok bool) {
		lines, right = lines+text, right && ok
	}
	for _, x := range d.Fields {
		add(fieldOracle(x))
	}
	for _, x := range d.Values {
		add(choiceOracle(x))
	}
	for _, x := range d.Roots {
		add(rootOracle(x))
	}
	for _, x := range d.Inputs {
		text, ok := inOracle(x)
		if d.Kind == impl.DfInput {
			text = "  " + text + "\n"
		} else {
			text = ""
		}
		add(text, ok)
	}
	return lines, right
}

var allPlaces = strings.Fields("QUERY MUTATION SUBSCRIPTION FIELD FRAGMENT_DEFINITION FRAGMENT_SPREAD INLINE_FRAGMENT VARIABLE_DEFINITION SCHEMA SCALAR OBJECT FIELD_DEFINITION ARGUMENT_DEFINITION INTERFACE UNION ENUM ENUM_VALUE INPUT_OBJECT INPUT_FIELD_DEFINITION")

// What each kind is told as, what stands around its Faces, and the parts that it has when it is right, a letter each as defParts tells them.
var (
	defWords    = map[int]string{1: "scalar", 2: "type", 3: "interface", 4: "union", 5: "enum", 6: "input", 7: "directive", 8: "schema"}
	faceBetween = map[int][]string{2: {" implements ", " & "}, 3: {" implements ", " & "}, 4: {" = ", " | "}, 7: {" on ", " | "}}
	defForms    = map[int]*regexp.Regexp{
		1: regexp.MustCompile(`^(D?Nd?|ENd)$`),
		2: regexp.MustCompile(`^(D?Nf?F?d?|EN(fF?d?|Fd?|d))$`),
		3: regexp.MustCompile(`^(D?Nf?F?d?|EN(fF?d?|Fd?|d))$`),
		4: regexp.MustCompile(`^(D?Nf?d?|EN(fd?|d))$`),
		5: regexp.MustCompile(`^(D?NV?d?|EN(Vd?|d))$`),
		6: regexp.MustCompile(`^(D?NI?d?|EN(Id?|d))$`),
		7: regexp.MustCompile(`^D?NfI?r?$`),
		8: regexp.MustCompile(`^(D?Rd?|E(Rd?|d))$`),
	}
)

func defParts(d impl.Def) string {
	parts := ""
	for i, there := range []bool{d.Ext, d.Desc != "", d.Name != "", len(d.Faces) > 0, len(d.Fields) > 0, len(d.Inputs) > 0, len(d.Values) > 0, len(d.Roots) > 0, d.Repeat, len(d.Dirs) > 0} {
		if there {
			parts += "EDNfFIVRrd"[i : i+1]
		}
	}
	return parts
}

func facesOracle(d impl.Def) (string, bool) {
	for _, face := range d.Faces {
		if d.Kind == impl.DfDirective && !slices.Contains(allPlaces, face) || !nameOracle(face) {
			return "", false
		}
	}
	if len(d.Faces) == 0 || faceBetween[d.Kind] == nil {
		return "", true
	}
	return faceBetween[d.Kind][0] + strings.Join(d.Faces, faceBetween[d.Kind][1]), true
}

// Only what is right has a text: one that is empty tells what is not.
func defOracle(d impl.Def) string {
	form := defForms[d.Kind]
	if form == nil || !form.MatchString(defParts(d)) || d.Name != "" && !nameOracle(d.Name) {
		return ""
	}
	desc, described := descOracle("", d.Desc, "\n")
	faces, faced := facesOracle(d)
	inputs, _ := insOracle(d.Inputs)
	dirs, steered := dirsOracle(d.Dirs)
	lines, right := linesOracle(d)
	if !described || !faced || !steered || !constOracle(d.Dirs) || !right {
		return ""
	}
	if lines != "" {
		lines = " {\n" + lines + "}"
	}
	text := strings.TrimRight(defWords[d.Kind]+" "+d.Name, " ")
	switch d.Kind {
	case 4:
		text += dirs + faces
	case 7:
		text = "directive @" + d.Name + inputs + map[bool]string{true: " repeatable"}[d.Repeat] + faces
	default:
		text += faces + dirs
	}
	return desc + map[bool]string{true: "extend "}[d.Ext] + text + lines + "\n"
}

func shownIns(list []impl.InDef) string {
	text := ""
	for _, d := range list {
		text += fmt.Sprintf("%q %s", d.Desc, shownVars([]impl.VarDef{asVariable(d)}))
	}
	return "(" + text + ")"
}

func shownField(d impl.FieldDef) string {
	return fmt.Sprintf("<%q %q %s %q %s>", d.Name, d.Desc, shownIns(d.Args), d.Type, shownDirs(d.Dirs))
}

func shownDef(d impl.Def) string {
	fields, values, roots := "", "", ""
	for _, x := range d.Fields {
		fields += shownField(x)
	}
	for _, x := range d.Roots {
		roots += fmt.Sprintf("<%d %q>", x.Kind, x.Type)
	}
	for _, x := range d.Values {
		values += fmt.Sprintf("<%q %q %s>", x.Name, x.Desc, shownDirs(x.Dirs))
	}
	return fmt.Sprintf("%d %v %q %q %q {%s} %s {%s} {%s} %v %s", d.Kind, d.Ext, d.Desc, d.Name, d.Faces, fields, shownIns(d.Inputs), values, roots, d.Repeat, shownDirs(d.Dirs))
}

// wantDef is for definitions that are right where there is a text, and are not where it is empty.
func wantDef(t *testing.T, text string, d impl.Def) {
	t.Helper()
	if got := impl.DefOk(d); got != (text != "") {
		t.Errorf("DefOk(%.300s) is %v", shownDef(d), got)
	}
	if got := impl.DefText(d); got != text {
		t.Errorf("DefText(%.300s): %.300q, want %.300q", shownDef(d), got, text)
	}
}

func wantDefAsOracle(t *testing.T, d impl.Def) {
	t.Helper()
	wantDef(t, defOracle(d), d)
}

func wantDefRight(t *testing.T, right bool, d impl.Def) {
	t.Helper()
	text := defOracle(d)
	if (text != "") != right {
		t.Errorf("%.300s is taken for right: %v", shownDef(d), right)
	}
	wantDef(t, text, d)
}

// wantFieldText asks for the text alone.
func wantFieldText(t *testing.T, text string, d impl.FieldDef) {
	t.Helper()
	if got := impl.FieldText(d); got != text {
		t.Errorf("FieldText(%.300s): %.300q, want %.300q", shownField(d), got, text)
	}
}

func wantInText(t *testing.T, text string, d impl.InDef) {
	t.Helper()
	if got := impl.InText(d); got != text {
		t.Errorf("InText(%.300s): %.300q, want %.300q", shownIns([]impl.InDef{d}), got, text)
	}
}

var (
	plainIn     = taken("", plainVar)
	plainMember = member("", "f", typ("T", ""))
	plainChoice = choice("", "A")
	plainRoot   = root(1, "Q")
	fieldKinds  = map[int]string{impl.DfObject: "type", impl.DfFace: "interface"}
)

// beside has lists in which one stands alone, first, amid and last.
func beside[T any](one T, other T) [][]T {
	return [][]T{{one}, {one, other}, {one, other, other}, {other, one, other}, {other, other, one}, {one, one}}
}

// besideText has what such lists are told as, when that stands between two of them.
func besideText(text string, other string, between string) []string {
	texts := []string{}
	for _, list := range beside(text, other) {
		texts = append(texts, strings.Join(list, between))
	}
	return texts
}

// orNothing is for what is not right when a part of it is not.
func orNothing(right bool, text string) string {
	if !right {
		return ""
	}
	return text
}

// wantField has this text, and makes right or wrong what it stands in, wherever it stands there.
func wantField(t *testing.T, text string, d impl.FieldDef) {
	t.Helper()
	wantFieldText(t, text, d)
	lines := besideText(text, "  f: T\n", "")
	for i, list := range beside(d, plainMember) {
		for kind, word := range fieldKinds {
			wantDef(t, orNothing(text != "", word+" T {\n"+lines[i]+"}\n"), fielded(bare(kind), list...))
			wantDef(t, orNothing(text != "", "extend "+word+" T implements A {\n"+lines[i]+"}\n"), added(faced(fielded(bare(kind), list...), "A")))
			wantDef(t, orNothing(text != "", "\"x\"\n"+word+" T @d {\n"+lines[i]+"}\n"), described("x", steeredDef(fielded(bare(kind), list...), oneDir...)))
		}
	}
}

func wantIn(t *testing.T, text string, d impl.InDef) {
	t.Helper()
	wantInText(t, text, d)
	beside := beside(d, plainIn)
	args, lines := besideText(text, "a: Int", ", "), besideText(text, "a: Int", "\n  ")
	for i, list := range beside {
		right := text != ""
		wantField(t, orNothing(right, "  f("+args[i]+"): T\n"), member("", "f", typ("T", ""), list...))
		wantDef(t, orNothing(right, "input T {\n  "+lines[i]+"\n}\n"), fed(bare(impl.DfInput), list...))
		wantDef(t, orNothing(right, "extend input T @d {\n  "+lines[i]+"\n}\n"), added(steeredDef(fed(bare(impl.DfInput), list...), oneDir...)))
		wantDef(t, orNothing(right, "directive @T("+args[i]+") on FIELD\n"), fed(least(impl.DfDirective), list...))
		wantDef(t, orNothing(right, "\"x\"\ndirective @T("+args[i]+") repeatable on FIELD\n"), described("x", repeated(fed(least(impl.DfDirective), list...))))
	}
}

func wantRightIn(t *testing.T, d impl.InDef) {
	t.Helper()
	text, right := inOracle(d)
	if !right {
		t.Errorf("%.300s is taken for right", shownIns([]impl.InDef{d}))
	}
	wantIn(t, text, d)
}

func wantInAsOracle(t *testing.T, d impl.InDef) {
	t.Helper()
	text, right := inOracle(d)
	wantIn(t, orNothing(right, text), d)
}

func wantFieldAsOracle(t *testing.T, d impl.FieldDef) {
	t.Helper()
	text, right := fieldOracle(d)
	wantField(t, orNothing(right, text), d)
}

// wantChoice is for a value of an enum, wherever it stands there.
func wantChoice(t *testing.T, text string, d impl.EnumDef) {
	t.Helper()
	lines := besideText(text, "  A\n", "")
	for i, list := range beside(d, plainChoice) {
		wantDef(t, orNothing(text != "", "enum T {\n"+lines[i]+"}\n"), valued(bare(impl.DfEnum), list...))
		wantDef(t, orNothing(text != "", "extend enum T @d {\n"+lines[i]+"}\n"), added(steeredDef(valued(bare(impl.DfEnum), list...), oneDir...)))
		wantDef(t, orNothing(text != "", "\"x\"\nenum T {\n"+lines[i]+"}\n"), described("x", valued(bare(impl.DfEnum), list...)))
	}
}

func wantRoot(t *testing.T, text string, r impl.Root) {
	t.Helper()
	lines := besideText(text, "  query: Q\n", "")
	for i, list := range beside(r, plainRoot) {
		wantDef(t, orNothing(text != "", "schema {\n"+lines[i]+"}\n"), rooted(bare(impl.DfSchema), list...))
		wantDef(t, orNothing(text != "", "extend schema @d {\n"+lines[i]+"}\n"), added(steeredDef(rooted(bare(impl.DfSchema), list...), oneDir...)))
		wantDef(t, orNothing(text != "", "\"x\"\nschema {\n"+lines[i]+"}\n"), described("x", rooted(bare(impl.DfSchema), list...)))
	}
}

// wantConstDirs is for directives, wherever in definitions they may stand.
func wantConstDirs(t *testing.T, right bool, dirs ...impl.Dir) {
	t.Helper()
	text, _ := dirsOracle(dirs)
	wantIn(t, orNothing(right, "b: T"+text), taken("", variable("b", typ("T", ""), dirs...)))
	wantIn(t, orNothing(right, "\"x\" b: T = 1"+text), taken("x", defaulted(variable("b", typ("T", ""), dirs...), handedOne)))
	wantField(t, orNothing(right, "  b: T"+text+"\n"), steeredMember(member("", "b", typ("T", "")), dirs...))
	wantField(t, orNothing(right, "  \"x\"\n  b(a: Int): T"+text+"\n"), steeredMember(member("x", "b", typ("T", ""), plainIn), dirs...))
	wantChoice(t, orNothing(right, "  B"+text+"\n"), choice("", "B", dirs...))
	wantChoice(t, orNothing(right, "  \"x\"\n  B"+text+"\n"), choice("x", "B", dirs...))
	for kind := 1; kind <= 8; kind++ {
		allowed := right && kind != impl.DfDirective || len(dirs) == 0
		wantDefRight(t, allowed, steeredDef(least(kind), dirs...))
		wantDefRight(t, allowed, described("x", steeredDef(least(kind), dirs...)))
		wantDefRight(t, allowed && len(dirs) > 0, added(steeredDef(bare(kind), dirs...)))
	}
}

var (
	noDefKinds = []int{0, 9, 10, 11, 12, 15, 16, 17, 24, 64, -1, -2, -3, -7, -8, -9, 255, 256, 256 + 1, 256 + 2, 256 + 7, 1<<16 + 2, 1<<32 + 1, 1<<32 + 2, 1<<32 + 7, 1<<32 + 8, -1<<32 + 2, math.MinInt, math.MinInt + 1, math.MinInt + 2, math.MinInt + 8, math.MaxInt, math.MaxInt - 1}
	rightDescs = slices.DeleteFunc(slices.Concat(someTexts, rightTexts[impl.VlString], []string{"a \"b\" c", "\"\"\"", "\\", "\\n", "a\nb", "\n", "\r\n", "é€😀", "a\té", "#", "  ", "\"d\"\n", strings.Repeat("😀", 50), strings.Repeat("\"", 200)}), func(desc string) bool { return escapedOracle(desc) == "" })
	wrongDescs = slices.Concat(wrongTexts, []string{strings.Repeat("a", 201), strings.Repeat("é", 100) + "a", strings.Repeat("é", 101), strings.Repeat("😀", 50) + "\n", "a\xff", "\xffa", strings.Repeat("a", 5000), strings.Repeat("\n", 201)})
	someDescs  = []string{"", "", "d", "a \"b\"\nc", "é€😀"}
)

func manyIns() []impl.InDef {
	ins := []impl.InDef{}
	for i, v := range manyVars() {
		ins = append(ins, taken(someDescs[i%len(someDescs)], v))
	}
	for i, desc := range rightDescs {
		ins = append(ins, taken(desc, plainVar), taken(desc, defaulted(variable("b", typ("T", "!"), oneDir...), constValues()[i])))
	}
	return ins
}

func manyFields() []impl.FieldDef {
	fields, types, dirs, ins := []impl.FieldDef{}, manyTypes(), constDirs(), manyIns()
	for i := range ins {
		d := member(someDescs[(i/5)%len(someDescs)], selNames[(i/7)%len(selNames)], types[i%len(types)])
		d.Args = ins[max(0, i-i%4):i:i]
		if i%3 == 1 {
			d.Dirs = dirs[i%len(dirs)]
		}
		fields = append(fields, d)
	}
	for i, desc := range rightDescs {
		fields = append(fields, member(desc, typeNames[i%len(typeNames)], types[i]))
	}
	return fields
}

// manyDefs has right definitions: of each kind, told for the first time and added, with every mix of the parts that it may have.
func manyDefs() []impl.Def {
	defs, fields, ins, dirs := []impl.Def{}, manyFields(), manyIns(), constDirs()[1:]
	names := slices.DeleteFunc(slices.Clone(typeNames), func(name string) bool { return name == "true" || name == "false" || name == "null" })
	for i := range 12000 {
		kind, turn := 1+i%8, i/8
		has := func(bit int) bool { return turn>>bit%2 > 0 }
		d := bare(kind)
		if kind != impl.DfSchema {
			d.Name = selNames[turn%len(selNames)]
		}
		if d.Ext = has(0) && kind != impl.DfDirective; !d.Ext && has(1) {
			d.Desc = rightDescs[turn%len(rightDescs)]
		}
		for n := range 1 + turn/32%3 {
			at, name := turn*3+n, names[(turn+n)%len(names)]
			switch {
			case kind == impl.DfDirective:
				d.Faces = append(d.Faces, allPlaces[(turn+n)%len(allPlaces)])
				d.Repeat = has(2)
			case kind == impl.DfSchema && (has(2) || !d.Ext):
				d.Roots = append(d.Roots, root(1+at%3, name))
			case kind >= impl.DfObject && kind <= impl.DfUnion && has(2):
				d.Faces = append(d.Faces, name)
			}
			switch {
			case (kind == impl.DfObject || kind == impl.DfFace) && has(3):
				d.Fields = append(d.Fields, fields[at%len(fields)])
			case (kind == impl.DfInput || kind == impl.DfDirective) && has(3):
				d.Inputs = append(d.Inputs, ins[at%len(ins)])
			case kind == impl.DfEnum && has(3):
				d.Values = append(d.Values, choice(someDescs[at%len(someDescs)], name, dirs[at%len(dirs)]...))
			}
		}
		if kind != impl.DfDirective && (has(4) || strings.TrimLeft(defParts(d), "EN") == "" && d.Ext) {
			d.Dirs = dirs[turn%len(dirs)]
		}
		defs = append(defs, d)
	}
	return defs
}

func descPieces(desc string) []string {
	if desc == "" {
		return nil
	}
	return []string{escapedOracle(desc)}
}

func inPieces(d impl.InDef) []string {
	pieces := append(descPieces(d.Desc), d.Name, ":")
	pieces = append(pieces, typePieces(d.Type)...)
	if d.Has {
		pieces = append(append(pieces, "="), piecesOf(d.Default)...)
	}
	return append(pieces, dirPieces(d.Dirs)...)
}

func insPieces(list []impl.InDef, open string, shut string) []string {
	if len(list) == 0 {
		return nil
	}
	pieces := []string{open}
	for _, d := range list {
		pieces = append(pieces, inPieces(d)...)
	}
	return append(pieces, shut)
}

// inBracePieces has the pieces of each of a list between braces, if there are some.
func inBracePieces[T any](list []T, pieces func(T) []string) []string {
	if len(list) == 0 {
		return nil
	}
	all := []string{"{"}
	for _, one := range list {
		all = append(all, pieces(one)...)
	}
	return append(all, "}")
}

// defPieces has the text of each token of a right definition.
func defPieces(d impl.Def) []string {
	faces := []string{}
	for i, face := range d.Faces {
		ahead := strings.TrimSpace(faceBetween[d.Kind][min(i, 1)])
		faces = append(faces, ahead, face)
	}
	head := append(descPieces(d.Desc), map[bool]string{true: "extend"}[d.Ext], defWords[d.Kind])
	switch d.Kind {
	case impl.DfDirective:
		return slices.Concat(head, []string{"@", d.Name}, insPieces(d.Inputs, "(", ")"), []string{map[bool]string{true: "repeatable"}[d.Repeat]}, faces)
	case impl.DfUnion:
		return slices.Concat(head, []string{d.Name}, dirPieces(d.Dirs), faces)
	}
	fields := inBracePieces(d.Fields, func(x impl.FieldDef) []string {
		return slices.Concat(descPieces(x.Desc), []string{x.Name}, insPieces(x.Args, "(", ")"), []string{":"}, typePieces(x.Type), dirPieces(x.Dirs))
	})
	values := inBracePieces(d.Values, func(x impl.EnumDef) []string {
		return slices.Concat(descPieces(x.Desc), []string{x.Name}, dirPieces(x.Dirs))
	})
	roots := inBracePieces(d.Roots, func(x impl.Root) []string { return []string{wordKinds[x.Kind], ":", x.Type} })
	return slices.Concat(head, []string{d.Name}, faces, dirPieces(d.Dirs), fields, values, roots, inBracePieces(d.Inputs, inPieces))
}

func TestDefsLimits(t *testing.T) {
	if got := [...]int{impl.DfScalar, impl.DfObject, impl.DfFace, impl.DfUnion, impl.DfEnum, impl.DfInput, impl.DfDirective, impl.DfSchema}; got != [...]int{1, 2, 3, 4, 5, 6, 7, 8} {
		t.Errorf("%v", got)
	}
	// The constants are numbers, of no type of their own.
	if got := [...]any{int8(impl.DfScalar), uint(impl.DfUnion), float64(impl.DfSchema), impl.Def{Kind: impl.DfInput}.Kind}; got != [...]any{int8(1), uint(4), float64(8), 6} {
		t.Errorf("%v", got)
	}
}

func TestRightDefinitionsHaveATextThatIsTheirs(t *testing.T) {
	seen, tokens := map[int]map[string]int{}, 0
	for _, d := range manyDefs() {
		wantDefRight(t, true, d)
		if seen[d.Kind] == nil {
			seen[d.Kind] = map[string]int{}
		}
		seen[d.Kind][defParts(d)]++
		if text := impl.DefText(d); len(text) < 4000 {
			tokens++
			wantSameTokens(t, text, defPieces(d))
		}
	}
	if tokens < 9000 {
		t.Errorf("the tokens of %d texts were looked at", tokens)
	}
	// As many mixes as there are: those that are told for the first time, and those that are added.
	for kind, want := range map[int]int{1: 4 + 1, 2: 16 + 7, 3: 16 + 7, 4: 8 + 3, 5: 8 + 3, 6: 8 + 3, 7: 8, 8: 4 + 3} {
		if len(seen[kind]) != want {
			t.Errorf("of kind %d there is %v", kind, seen[kind])
		}
	}
}

func TestRightFieldsHaveATextThatIsTheirs(t *testing.T) {
	fields := manyFields()
	if len(fields) < 3000 {
		t.Fatalf("%d fields", len(fields))
	}
	for i, d := range fields {
		text, right := fieldOracle(d)
		if !right {
			t.Fatalf("%.300s is taken for right", shownField(d))
		}
		wantFieldText(t, text, d)
		if i%20 == 0 {
			wantField(t, text, d)
		}
	}
}

func TestRightInputsHaveATextThatIsTheirs(t *testing.T) {
	ins := manyIns()
	if len(ins) < 3000 {
		t.Fatalf("%d inputs", len(ins))
	}
	for i, d := range ins {
		text, right := inOracle(d)
		if !right {
			t.Fatalf("%.300s is taken for right", shownIns([]impl.InDef{d}))
		}
		wantInText(t, text, d)
		// What a variable is told as has only the sign ahead of it.
		told := impl.OpText(filled(question(2, "", field("b")), asVariable(d)))
		if desc, _ := descOracle("", d.Desc, " "); told != "mutation($"+strings.TrimPrefix(text, desc)+") {\n  b\n}\n" {
			t.Errorf("%.300q as a variable is %.300q", text, told)
		}
		if i%40 == 0 {
			wantRightIn(t, d)
		}
	}
}

func TestDefinitionsWrittenOut(t *testing.T) {
	limit := taken("", defaulted(variable("limit", typ("Int", "!")), handedOne))
	list := taken("how \"many\"", defaulted(variable("x", typ("Point", "]]"), dir("d"), dir("e", arg("f", handedText))), objectOf("u v", listOf(), val(impl.VlWord, "null"))))
	id := member("", "id", typ("ID", "!"))
	friends := steeredMember(member("a\n\"é\"", "friends", typ("User", "!]!"), limit, list), dir("d"))
	for _, one := range []struct {
		d    impl.Def
		text string
	}{
		{bare(1), "scalar T\n"},
		{bare(2), "type T\n"},
		{bare(3), "interface T\n"},
		{bare(4), "union T\n"},
		{bare(5), "enum T\n"},
		{bare(6), "input T\n"},
		{least(7), "directive @T on FIELD\n"},
		{least(8), "schema {\n  query: Q\n}\n"},
		{described("d", bare(1)), "\"d\"\nscalar T\n"},
		{described("a \"b\" \\ \n é😀", bare(1)), "\"a \\\"b\\\" \\\\ \\n é😀\"\nscalar T\n"},
		{described("d", bare(2)), "\"d\"\ntype T\n"},
		{described("d", bare(3)), "\"d\"\ninterface T\n"},
		{described("d", bare(4)), "\"d\"\nunion T\n"},
		{described("d", bare(5)), "\"d\"\nenum T\n"},
		{described("d", bare(6)), "\"d\"\ninput T\n"},
		{described("d", least(7)), "\"d\"\ndirective @T on FIELD\n"},
		{described("d", least(8)), "\"d\"\nschema {\n  query: Q\n}\n"},
		{steeredDef(bare(1), dir("d"), dir("e", arg("f", handedOne))), "scalar T @d @e(f: 1)\n"},
		{added(steeredDef(bare(1), dir("d"))), "extend scalar T @d\n"},
		{faced(bare(2), "A"), "type T implements A\n"},
		{faced(bare(2), "A", "B"), "type T implements A & B\n"},
		{faced(bare(3), "A", "B", "A"), "interface T implements A & B & A\n"},
		{added(faced(bare(2), "A")), "extend type T implements A\n"},
		{fielded(bare(2), id), "type T {\n  id: ID!\n}\n"},
		{fielded(bare(3), id, friends), "interface T {\n  id: ID!\n  \"a\\n\\\"é\\\"\"\n  friends(limit: Int! = 1, \"how \\\"many\\\"\" x: [[Point]] = {u: [], v: null} @d @e(f: \"a\\n\\\"é\\\"\")): [User!]! @d\n}\n"},
		{added(fielded(bare(3), id)), "extend interface T {\n  id: ID!\n}\n"},
		{steeredDef(faced(bare(2), "A", "B"), dir("d")), "type T implements A & B @d\n"},
		{described("d", steeredDef(faced(fielded(bare(2), id), "A", "B"), dir("d"))), "\"d\"\ntype T implements A & B @d {\n  id: ID!\n}\n"},
		{added(steeredDef(faced(fielded(bare(3), id, id), "A"), dir("d"))), "extend interface T implements A @d {\n  id: ID!\n  id: ID!\n}\n"},
		{faced(bare(4), "A"), "union T = A\n"},
		{faced(bare(4), "A", "B", "C"), "union T = A | B | C\n"},
		{steeredDef(faced(bare(4), "A", "B"), dir("d"), dir("e")), "union T @d @e = A | B\n"},
		{steeredDef(bare(4), dir("d")), "union T @d\n"},
		{added(faced(bare(4), "A", "B")), "extend union T = A | B\n"},
		{added(steeredDef(bare(4), dir("d"))), "extend union T @d\n"},
		{valued(bare(5), choice("", "A")), "enum T {\n  A\n}\n"},
		{valued(bare(5), choice("", "A"), choice("d", "B", dir("d"), dir("e", arg("f", handedOne))), choice("\"", "C")), "enum T {\n  A\n  \"d\"\n  B @d @e(f: 1)\n  \"\\\"\"\n  C\n}\n"},
		{added(steeredDef(valued(bare(5), choice("", "A")), dir("d"))), "extend enum T @d {\n  A\n}\n"},
		{fed(bare(6), limit), "input T {\n  limit: Int! = 1\n}\n"},
		{steeredDef(fed(bare(6), limit, list), dir("d")), "input T @d {\n  limit: Int! = 1\n  \"how \\\"many\\\"\" x: [[Point]] = {u: [], v: null} @d @e(f: \"a\\n\\\"é\\\"\")\n}\n"},
		{added(fed(bare(6), limit)), "extend input T {\n  limit: Int! = 1\n}\n"},
		{faced(least(7), "FIELD", "QUERY"), "directive @T on FIELD | QUERY\n"},
		{repeated(least(7)), "directive @T repeatable on FIELD\n"},
		{fed(least(7), limit), "directive @T(limit: Int! = 1) on FIELD\n"},
		{described("d", repeated(fed(faced(bare(7), "ENUM", "ENUM_VALUE", "SCHEMA"), limit, taken("x", plainVar)))), "\"d\"\ndirective @T(limit: Int! = 1, \"x\" a: Int) repeatable on ENUM | ENUM_VALUE | SCHEMA\n"},
		{rooted(bare(8), root(2, "M"), root(1, "Q"), root(3, "S"), root(2, "M")), "schema {\n  mutation: M\n  query: Q\n  subscription: S\n  mutation: M\n}\n"},
		{described("d", steeredDef(least(8), dir("d"))), "\"d\"\nschema @d {\n  query: Q\n}\n"},
		{added(least(8)), "extend schema {\n  query: Q\n}\n"},
		{added(steeredDef(bare(8), dir("d"))), "extend schema @d\n"},
		{added(steeredDef(least(8), dir("d"))), "extend schema @d {\n  query: Q\n}\n"},
		{faced(named(bare(2), "type"), "type", "implements", "on"), "type type implements type & implements & on\n"},
		{faced(named(bare(4), "extend"), "true", "false", "null"), "union extend = true | false | null\n"},
		{repeated(named(least(7), "repeatable")), "directive @repeatable repeatable on FIELD\n"},
		{fielded(bare(2), member("", "true", typ("null", ""), taken("", variable("false", typ("on", ""))))), "type T {\n  true(false: on): null\n}\n"},
	} {
		wantDef(t, one.text, one.d)
		if got := defOracle(one.d); got != one.text {
			t.Errorf("by the chapter's words: %q, not %q", got, one.text)
		}
	}
}

func TestFieldsAndInputsWrittenOut(t *testing.T) {
	a, b := plainIn, taken("x", defaulted(variable("b", typ("T", "!]"), dir("d")), listOf(handedOne)))
	wantIn(t, "a: Int", a)
	wantIn(t, "\"x\" b: [T!] = [1] @d", b)
	wantIn(t, "\"x\" a: Int", taken("x", plainVar))
	wantIn(t, "a: Int = null", taken("", defaulted(plainVar, val(impl.VlWord, "null"))))
	wantIn(t, "a: Int @d @e(f: 1)", taken("", variable("a", typ("Int", ""), dir("d"), dir("e", arg("f", handedOne)))))
	wantIn(t, "\"a\\n\\\"é\\\"\\t😀\" a: Int", taken("a\n\"é\"\t😀", plainVar))
	wantField(t, "  f: T\n", plainMember)
	wantField(t, "  \"x\"\n  f: T\n", member("x", "f", typ("T", "")))
	wantField(t, "  \"a\\n\\\"é\\\"\\t😀\"\n  f: T\n", member("a\n\"é\"\t😀", "f", typ("T", "")))
	wantField(t, "  f: [[T!]!]!\n", member("", "f", typ("T", "!]!]!")))
	wantField(t, "  f(a: Int): T\n", member("", "f", typ("T", ""), a))
	wantField(t, "  f(a: Int, \"x\" b: [T!] = [1] @d): T\n", member("", "f", typ("T", ""), a, b))
	wantField(t, "  \"y\"\n  f(\"x\" b: [T!] = [1] @d, a: Int, a: Int, a: Int): T! @d @e(f: 1)\n", steeredMember(member("y", "f", typ("T", "!"), b, a, a, a), dir("d"), dir("e", arg("f", handedOne))))
	wantField(t, "  f: T @d\n", steeredMember(plainMember, dir("d")))
	for _, none := range [][]impl.InDef{nil, {}, make([]impl.InDef, 0, 3)} {
		wantField(t, "  f: T\n", impl.FieldDef{Name: "f", Type: typ("T", ""), Args: none, Dirs: []impl.Dir{}})
	}
	wantIn(t, "a: Int", impl.InDef{Name: "a", Type: typ("Int", ""), Dirs: []impl.Dir{}, Default: impl.Value{Items: []impl.Value{}, Names: []string{}}})
}

// The same Inputs stand in lines of their own, or in one.
func TestInputsOfAnInputAndOfADirective(t *testing.T) {
	ins := manyIns()
	for many := range 40 {
		list := ins[many*3 : many*4]
		texts := []string{}
		for _, d := range list {
			texts = append(texts, impl.InText(d))
		}
		lines, args := "", ""
		if many > 0 {
			lines = " {\n  " + strings.Join(texts, "\n  ") + "\n}"
			args = "(" + strings.Join(texts, ", ") + ")"
		}
		wantDef(t, "input T"+lines+"\n", fed(bare(6), list...))
		wantDef(t, "directive @T"+args+" on FIELD\n", fed(least(7), list...))
		wantField(t, "  f"+args+": T\n", member("", "f", typ("T", ""), list...))
	}
}

func TestPlaces(t *testing.T) {
	if len(allPlaces) != 19 {
		t.Fatalf("%d places", len(allPlaces))
	}
	want := func(s string, right bool) {
		t.Helper()
		if got := impl.PlaceOk(s); got != right {
			t.Errorf("PlaceOk(%q) is %v", s, got)
		}
		d := faced(bare(impl.DfDirective), s)
		wantDef(t, orNothing(right, "directive @T on "+s+"\n"), d)
		for _, list := range wrongAt(s, "FIELD", "QUERY", "ENUM") {
			wantDef(t, orNothing(right, "directive @T on "+strings.Join(list, " | ")+"\n"), faced(d, list...))
		}
	}
	other := []string{"", " ", "FIELD_", "_FIELD", "ENUM ENUM", "FRAGMENT", "DEFINITION", "INPUT", "VALUE", "ENUM-VALUE", "ENUM VALUE", "INLINE", "SPREAD", "VARIABLE", "ARGUMENT", "INPUT_FIELD", "FRAGMENT_SPREAD_DEFINITION", "TYPE", "DIRECTIVE", "QUERY|FIELD", "QUERY MUTATION", "query", "mutation", "type", "T", "ÉNUM", "*"}
	for _, place := range allPlaces {
		want(place, true)
		other = append(other, strings.ToLower(place), strings.ToLower(place[:1])+place[1:], place+"S", place+" ", " "+place, place+"\n", "\n"+place, place+"\x00", "\""+place+"\"", "@"+place, strings.ReplaceAll(place, "_", ""), strings.ReplaceAll(place, "_", "-"), place+"_DEFINITION", place+place)
		for at := range place {
			changed := []string{place[:at] + strings.ToLower(place[at:at+1]) + place[at+1:], place[:at] + place[at+1:], place[:at] + place[at:at+1] + place[at:], place[:at] + "A" + place[at:], place[:at], place[at+1:], place[:at] + "X" + place[at+1:], place[:at] + "\xc1" + place[at+1:]}
			other = append(other, changed...)
		}
	}
	wrong := 0
	for _, s := range slices.Concat(other, wrongName, typeNames) {
		if !slices.Contains(allPlaces, s) {
			wrong++
			want(s, false)
		}
	}
	if wrong < 1500 {
		t.Errorf("%d wrong ones", wrong)
	}
}

func TestFacesOfADirective(t *testing.T) {
	d := bare(impl.DfDirective)
	for _, none := range [][]string{nil, {}, make([]string, 0, 3)} {
		wantDef(t, "", faced(d, none...))
		wantDef(t, "", repeated(described("d", faced(fed(d, plainIn), none...))))
	}
	wantDef(t, "directive @T on "+strings.Join(allPlaces, " | ")+"\n", faced(d, allPlaces...))
	wantDef(t, "directive @T on ENUM | ENUM\n", faced(d, "ENUM", "ENUM"))
	for _, wrong := range []string{"", "A", "field", "1", "FIELD ", "é", "\xff"} {
		for _, list := range append(wrongAt(wrong, allPlaces...), []string{wrong}, append(slices.Repeat(allPlaces, 30), wrong)) {
			wantDef(t, "", faced(d, list...))
			wantDef(t, "", repeated(faced(fed(d, plainIn), list...)))
		}
	}
	// It is never added, whatever it has.
	for _, places := range [][]string{nil, {"FIELD"}, allPlaces} {
		for _, ins := range [][]impl.InDef{nil, {plainIn}} {
			for _, desc := range []string{"", "d"} {
				for _, dirs := range [][]impl.Dir{nil, oneDir} {
					one := added(described(desc, steeredDef(fed(faced(d, places...), ins...), dirs...)))
					wantDef(t, "", one)
					wantDef(t, "", repeated(one))
				}
			}
		}
	}
}

func TestFacesThatAreNames(t *testing.T) {
	between := map[int]string{2: " & ", 3: " & ", 4: " | "}
	ahead := map[int]string{2: "type T implements ", 3: "interface T implements ", 4: "union T = "}
	right := []string{"A", "b_1", "QUERY"}
	for kind := range between {
		for many := range 4 {
			wantDefRight(t, true, faced(bare(kind), right[:many]...))
		}
		for _, name := range slices.Concat(typeNames, allPlaces, []string{"T", "implements", "extend"}) {
			for _, list := range append(wrongAt(name, right...), []string{name}) {
				text := ahead[kind] + strings.Join(list, between[kind]) + "\n"
				wantDef(t, text, faced(bare(kind), list...))
				wantDef(t, "extend "+text, added(faced(bare(kind), list...)))
			}
		}
		for _, name := range append(slices.Clone(wrongName), "") {
			for _, list := range append(wrongAt(name, right...), []string{name}, []string{name, name}) {
				wantDef(t, "", faced(bare(kind), list...))
				wantDef(t, "", described("d", steeredDef(faced(bare(kind), list...), oneDir...)))
				wantDef(t, "", added(faced(bare(kind), list...)))
			}
		}
		wantDef(t, "", faced(bare(kind), append(slices.Repeat(right, 50), "1")...))
	}
}

func TestKindsOfDefinitionsThatAreNone(t *testing.T) {
	for _, kind := range noDefKinds {
		for like := 1; like <= 8; like++ {
			for _, d := range []impl.Def{bare(like), least(like), described("d", least(like)), steeredDef(least(like), oneDir...), added(steeredDef(bare(like), oneDir...)), added(least(like)), fielded(faced(bare(like), "A"), plainMember), fed(bare(like), plainIn), valued(bare(like), plainChoice), rooted(bare(like), plainRoot)} {
				d.Kind = kind
				wantDef(t, "", d)
			}
		}
		wantDef(t, "", impl.Def{Kind: kind})
	}
	for kind := -300; kind <= 300; kind++ {
		d := impl.Def{Kind: kind, Name: "T", Faces: []string{"FIELD"}}
		wantDefRight(t, kind == 2 || kind == 3 || kind == 4 || kind == 7, d)
	}
}

// One part beside what has to be there, at each of the kinds.
func TestPartsThatAKindMayHave(t *testing.T) {
	parts := map[string]func(impl.Def) impl.Def{
		"Faces":  func(d impl.Def) impl.Def { return faced(d, "FIELD") },
		"Fields": func(d impl.Def) impl.Def { return fielded(d, plainMember) },
		"Inputs": func(d impl.Def) impl.Def { return fed(d, plainIn) },
		"Values": func(d impl.Def) impl.Def { return valued(d, plainChoice) },
		"Roots":  func(d impl.Def) impl.Def { return rooted(d, plainRoot) },
		"Repeat": repeated,
		"Dirs":   func(d impl.Def) impl.Def { return steeredDef(d, oneDir...) },
	}
	may := map[string][]int{"Faces": {2, 3, 4, 7}, "Fields": {2, 3}, "Inputs": {6, 7}, "Values": {5}, "Roots": {8}, "Repeat": {7}, "Dirs": {1, 2, 3, 4, 5, 6, 8}}
	for part, put := range parts {
		for kind := 1; kind <= 8; kind++ {
			right := slices.Contains(may[part], kind)
			wantDefRight(t, right, put(least(kind)))
			wantDefRight(t, right, described("d", put(least(kind))))
			// With Ext each of them is enough, but at a directive.
			wantDefRight(t, right && kind != 7, added(put(bare(kind))))
			wantDefRight(t, false, added(described("d", put(bare(kind)))))
			for other, putOther := range parts {
				wantDefRight(t, right && slices.Contains(may[other], kind), putOther(put(least(kind))))
				wantDefRight(t, right && slices.Contains(may[other], kind) && kind != 7, added(putOther(put(bare(kind)))))
			}
		}
	}
}

func TestWhatIsAddedHasSomething(t *testing.T) {
	for kind := 1; kind <= 8; kind++ {
		wantDef(t, "", added(bare(kind)))
		wantDef(t, "", added(described("d", bare(kind))))
		empty := impl.Def{Kind: kind, Ext: true, Name: bare(kind).Name, Faces: []string{}, Fields: []impl.FieldDef{}, Inputs: []impl.InDef{}, Values: []impl.EnumDef{}, Roots: make([]impl.Root, 0, 3), Dirs: make([]impl.Dir, 0, 3)}
		wantDef(t, "", empty)
		wantDef(t, "", described("d", empty))
	}
	wantDef(t, "extend scalar T @d\n", added(steeredDef(bare(1), oneDir...)))
	wantDef(t, "extend type T implements A\n", added(faced(bare(2), "A")))
	wantDef(t, "extend type T {\n  f: T\n}\n", added(fielded(bare(2), plainMember)))
	wantDef(t, "extend type T @d\n", added(steeredDef(bare(2), oneDir...)))
	wantDef(t, "extend interface T implements A\n", added(faced(bare(3), "A")))
	wantDef(t, "extend interface T {\n  f: T\n}\n", added(fielded(bare(3), plainMember)))
	wantDef(t, "extend interface T @d\n", added(steeredDef(bare(3), oneDir...)))
	wantDef(t, "extend union T = A\n", added(faced(bare(4), "A")))
	wantDef(t, "extend union T @d\n", added(steeredDef(bare(4), oneDir...)))
	wantDef(t, "extend enum T {\n  A\n}\n", added(valued(bare(5), plainChoice)))
	wantDef(t, "extend enum T @d\n", added(steeredDef(bare(5), oneDir...)))
	wantDef(t, "extend input T {\n  a: Int\n}\n", added(fed(bare(6), plainIn)))
	wantDef(t, "extend input T @d\n", added(steeredDef(bare(6), oneDir...)))
	wantDef(t, "extend schema {\n  query: Q\n}\n", added(rooted(bare(8), plainRoot)))
	wantDef(t, "extend schema @d\n", added(steeredDef(bare(8), oneDir...)))
}

func TestASchemaHasRoots(t *testing.T) {
	for _, none := range [][]impl.Root{nil, {}, make([]impl.Root, 0, 3)} {
		wantDef(t, "", rooted(bare(8), none...))
		wantDef(t, "", steeredDef(rooted(bare(8), none...), oneDir...))
		wantDef(t, "", described("d", rooted(bare(8), none...)))
		wantDef(t, "", added(rooted(bare(8), none...)))
		wantDef(t, "extend schema @d\n", added(steeredDef(rooted(bare(8), none...), oneDir...)))
	}
	for kind := -10; kind <= 10; kind++ {
		text, right := rootOracle(root(kind, "M"))
		wantRoot(t, orNothing(right, text), root(kind, "M"))
		wantRoot(t, "", root(kind, ""))
	}
	wantRoot(t, "  query: M\n", root(1, "M"))
	wantRoot(t, "  mutation: M\n", root(2, "M"))
	wantRoot(t, "  subscription: M\n", root(3, "M"))
	for _, kind := range noOpKinds {
		wantRoot(t, "", root(kind, "M"))
	}
	for _, name := range slices.Concat(typeNames, selNames) {
		wantRoot(t, "  mutation: "+name+"\n", root(2, name))
	}
	for _, name := range wrongName {
		wantRoot(t, "", root(1, name))
	}
	for _, wrong := range []impl.Root{{}, root(0, "Q"), root(4, "Q"), root(1, ""), root(2, "1")} {
		wantRoot(t, "", wrong)
		wantDef(t, "", rooted(bare(8), append(slices.Repeat([]impl.Root{plainRoot}, 100), wrong)...))
	}
}

func TestDescriptions(t *testing.T) {
	if len(rightDescs) < 50 || len(wrongDescs) < 40 {
		t.Fatalf("%d and %d descriptions", len(rightDescs), len(wrongDescs))
	}
	wantDescription := func(desc string) {
		t.Helper()
		told := escapedOracle(desc)
		right := told != ""
		line, lines, part := told+"\n", "  "+told+"\n", told+" "
		if desc == "" {
			line, lines, part = "", "", ""
		}
		for kind := 1; kind <= 8; kind++ {
			text := impl.DefText(least(kind))
			wantDef(t, orNothing(right, line+text), described(desc, least(kind)))
			one := steeredDef(least(kind), oneDir...)
			wantDef(t, orNothing(right && kind != 7, line+impl.DefText(one)), described(desc, one))
			// What is added has none.
			wantDef(t, orNothing(desc == "" && kind != 7, impl.DefText(added(one))), added(described(desc, one)))
		}
		wantIn(t, orNothing(right, part+"a: Int"), taken(desc, plainVar))
		wantIn(t, orNothing(right, part+"b: T! = 1 @d"), taken(desc, defaulted(variable("b", typ("T", "!"), oneDir...), handedOne)))
		wantField(t, orNothing(right, lines+"  f: T\n"), member(desc, "f", typ("T", "")))
		wantField(t, orNothing(right, lines+"  f("+part+"a: Int): T @d\n"), steeredMember(member(desc, "f", typ("T", ""), taken(desc, plainVar)), oneDir...))
		wantChoice(t, orNothing(right, lines+"  B\n"), choice(desc, "B"))
		wantChoice(t, orNothing(right, lines+"  B @d\n"), choice(desc, "B", oneDir...))
	}
	for _, desc := range slices.Concat(rightDescs, wrongDescs) {
		wantDescription(desc)
	}
	for b := range 256 {
		wantDescription(string([]byte{byte(b)}))
	}
	for _, many := range []int{1, 199, 200, 201} {
		wantDescription(strings.Repeat("a", many))
		wantDescription(strings.Repeat("\x01", many))
	}
}

func TestNamesOfDefinitions(t *testing.T) {
	for _, name := range selNames {
		for kind := 1; kind <= 7; kind++ {
			at := map[bool]string{true: "@"}[kind == 7]
			behind := map[bool]string{true: " on FIELD"}[kind == 7]
			wantDef(t, defWords[kind]+" "+at+name+behind+"\n", named(least(kind), name))
		}
		wantIn(t, name+": Int", taken("", variable(name, typ("Int", ""))))
		wantField(t, "  "+name+": T\n", member("", name, typ("T", "")))
		wantChoice(t, orNothing(name != "true" && name != "false" && name != "null", "  "+name+"\n"), choice("", name))
		// A schema has no name at all.
		wantDef(t, "", named(least(8), name))
		wantDef(t, "", added(named(least(8), name)))
		wantDef(t, "", added(steeredDef(named(bare(8), name), oneDir...)))
	}
	for _, name := range append(slices.Clone(wrongName), "") {
		for kind := 1; kind <= 8; kind++ {
			wantDefRight(t, kind == 8 && name == "", named(least(kind), name))
			wantDefRight(t, kind == 8 && name == "", described("d", named(least(kind), name)))
			wantDefRight(t, kind == 8 && name == "", added(steeredDef(named(bare(kind), name), oneDir...)))
		}
		wantIn(t, "", taken("", variable(name, typ("Int", ""))))
		wantField(t, "", member("", name, typ("T", "")))
		wantChoice(t, "", choice("", name))
	}
	for b := range 256 {
		for _, name := range []string{string([]byte{byte(b)}), string([]byte{'a', byte(b)}), string([]byte{byte(b), 'a'})} {
			right := nameOracle(name)
			wantDefRight(t, right, named(bare(1), name))
			wantDefRight(t, right, named(least(7), name))
			wantDefRight(t, right, valued(bare(5), choice("", name)))
			wantDefRight(t, right, rooted(bare(8), root(1, name)))
			wantDefRight(t, right, faced(bare(4), name))
			wantInText(t, orNothing(right, name+": Int"), taken("", variable(name, typ("Int", ""))))
			wantFieldText(t, orNothing(right, "  "+name+": T\n"), member("", name, typ("T", "")))
		}
	}
}

func TestWordsAreNoValuesOfAnEnum(t *testing.T) {
	for _, word := range []string{"true", "false", "null"} {
		wantChoice(t, "", choice("", word))
		wantChoice(t, "", choice("d", word, oneDir...))
		// Everywhere else they are names as others are.
		wantIn(t, word+": "+word, taken("", variable(word, typ(word, ""))))
		wantField(t, "  "+word+": "+word+"\n", member("", word, typ(word, "")))
		wantDef(t, "enum "+word+"\n", named(bare(5), word))
		wantRoot(t, "  query: "+word+"\n", root(1, word))
	}
	for _, name := range []string{"True", "TRUE", "tru", "truee", "true_", "_true", "False", "Null", "nul", "nulll", "falsetrue", "on", "enum", longestName} {
		wantChoice(t, "  "+name+"\n", choice("", name))
	}
}

func TestTypesInDefinitions(t *testing.T) {
	for _, wraps := range allRightWraps() {
		x := typ("T", wraps)
		wantInText(t, "a: "+typeTextOracle(x), taken("", variable("a", x)))
		wantFieldText(t, "  f: "+typeTextOracle(x)+"\n", member("", "f", x))
	}
	wantIn(t, "a: [[[[[[[[T]]]]]]]]", taken("", variable("a", typ("T", "]]]]]]]]"))))
	wantField(t, "  f: [[[[T!]!]!]!]\n", member("", "f", typ("T", "!]!]!]!]")))
	for _, x := range []impl.Type{{}, typ("", "!"), typ("", "]"), typ("1", ""), typ("a b", ""), typ("T!", ""), typ("[T]", ""), typ(" T", ""), typ(tooLongName, ""), typ("T", "!!"), typ("T", "]!!"), typ("T", "!]!!]"), typ("T", "["), typ("T", " "), typ("T", "!a"), typ("T", "]]]]]]]]]"), typ("T", "]]]]]]]]!"), typ("T", "!]!]!]!]!"), typ("T", "!\n"), typ("T", "\xff"), typ("T", "\x00")} {
		wantIn(t, "", taken("", variable("a", x)))
		wantIn(t, "", taken("d", defaulted(variable("a", x, oneDir...), handedOne)))
		wantField(t, "", member("", "f", x))
		wantField(t, "", steeredMember(member("d", "f", x, plainIn), oneDir...))
	}
	for _, name := range wrongName {
		wantInText(t, "", taken("", variable("a", typ(name, ""))))
		wantFieldText(t, "", member("", "f", typ(name, "]")))
	}
	eachText([]string{"]", "!", "[", " "}, 3, func(wraps string) {
		wantInAsOracle(t, taken("", variable("a", typ("T", wraps))))
		wantFieldAsOracle(t, member("", "f", typ("T", wraps)))
	})
}

func TestDefaultsInDefinitions(t *testing.T) {
	a := variable("a", typ("Int", ""))
	for i, v := range manyRight() {
		text, right := inOracle(taken("", defaulted(a, v)))
		if right != (len(varsOracle(v)) == 0) {
			t.Fatalf("%s is taken for right: %v", shown(v), right)
		}
		wantInText(t, orNothing(right, text), taken("", defaulted(a, v)))
		// The same ones without Has are not the empty one.
		wantInText(t, "", impl.InDef{Name: "a", Type: a.Type, Default: v})
		if i%40 == 0 {
			wantInAsOracle(t, taken("", defaulted(a, v)))
			wantIn(t, "", impl.InDef{Name: "a", Type: a.Type, Default: v})
		}
	}
	// Right, but not const.
	for _, wrap := range allWraps {
		for _, times := range []int{0, 1, 2, 9} {
			wantIn(t, "", taken("", defaulted(a, within(handedVar, times, wrap))))
		}
	}
	// Not right at all.
	for _, v := range []impl.Value{{}, val(0, "a"), val(9, ""), val(-1, "1"), val(impl.VlInt, ""), val(impl.VlInt, "01"), val(impl.VlFloat, "1"), val(impl.VlString, "\xff"), val(impl.VlString, strings.Repeat("a", 201)), val(impl.VlWord, "True"), val(impl.VlEnum, "null"), val(impl.VlVar, ""), val(impl.VlList, "a"), listOf(impl.Value{}), listOf(handedOne, val(impl.VlInt, "x")), objectOf("a"), objectOf("1", handedOne), within(listOf(), 10, inList), within(handedOne, 11, inObject), {Kind: impl.VlInt, Text: "1", Items: []impl.Value{handedOne}}, {Kind: impl.VlInt, Text: "1", Names: []string{"a"}}} {
		wantIn(t, "", taken("", defaulted(a, v)))
	}
	wantIn(t, "a: Int = "+strings.Repeat("[", 10)+strings.Repeat("]", 10), taken("", defaulted(a, within(listOf(), 9, inList))))
	// One field of what is not there is enough for it not to be the empty one.
	for _, v := range []impl.Value{{Kind: 1}, {Kind: 2}, {Kind: 7}, {Kind: 8}, {Kind: 9}, {Kind: -1}, {Kind: math.MinInt}, {Kind: 1 << 32}, {Text: "a"}, {Text: " "}, {Text: "\x00"}, {Items: []impl.Value{{}}}, {Items: []impl.Value{handedOne}}, {Names: []string{""}}, {Names: []string{"a"}}} {
		wantIn(t, "", impl.InDef{Name: "a", Type: a.Type, Default: v})
		wantInAsOracle(t, impl.InDef{Name: "a", Type: a.Type, Has: true, Default: v})
	}
}

func TestDirectivesInDefinitionsAreConst(t *testing.T) {
	args := []impl.Arg{arg("a", handedOne), arg("b", listOf(objectOf("c", handedText))), arg("d", objectOf(""))}
	dirs := []impl.Dir{dir("a", args...), dir("b", args...), dir("a", args...)}
	wantConstDirs(t, true)
	for many := range 3 {
		wantConstDirs(t, true, dirs[:many+1]...)
	}
	for _, value := range []impl.Value{handedVar, within(handedVar, 1, inList), within(handedVar, 9, inObject), within(handedVar, 10, inList, inObject), within(handedVar, 2, allWraps["amid a list"], allWraps["last in an object"])} {
		for _, changed := range append(wrongAt(arg("e", value), args...), []impl.Arg{arg("e", value)}) {
			for _, list := range append(wrongAt(dir("f", changed...), dirs...), []impl.Dir{dir("f", changed...)}) {
				if !impl.DirsOk(list) {
					t.Fatalf("%.300s is not right", shownDirs(list))
				}
				wantConstDirs(t, false, list...)
			}
		}
	}
	// A text that has the sign of a variable in it is none.
	wantConstDirs(t, true, dir("d", arg("e", val(impl.VlString, "$v"))))
}

func TestDirectivesInDefinitionsThatAreNotRight(t *testing.T) {
	args := []impl.Arg{arg("a", handedOne), arg("b", listOf()), arg("c", handedText)}
	dirs := []impl.Dir{dir("a", args...), dir("b"), dir("c", arg("d", handedOne))}
	wrong := []impl.Dir{{}, dir("1"), dir("a b"), dir("@a"), dir(tooLongName), dir("", args...)}
	for _, bad := range []impl.Arg{{}, arg("1", handedOne), arg("a", impl.Value{}), arg("a", val(impl.VlInt, "01")), arg("a", within(listOf(), 10, inList)), arg("a", listOf(val(impl.VlEnum, "true"))), arg("a", val(9, "")), arg("a", val(impl.VlVar, "1"))} {
		wrong = append(wrong, dir("e", bad), dir("e", wrongAt(bad, args...)[1]...), dir("e", wrongAt(bad, args...)[2]...))
	}
	for _, one := range wrong {
		for _, list := range append(wrongAt(one, dirs...), []impl.Dir{one}) {
			wantConstDirs(t, false, list...)
		}
	}
}

// Each thing that may be wrong with one, alone and among right ones, and right ones with nothing but what they need.
func TestPartsOfDefinitionsOfWhichOneIsWrong(t *testing.T) {
	wantIn(t, "a: Int", plainIn)
	wantField(t, "  f: T\n", plainMember)
	wantChoice(t, "  A\n", plainChoice)
	wantRoot(t, "  query: Q\n", plainRoot)
	wrongDir, notConst := []impl.Dir{{}}, []impl.Dir{dir("d", arg("e", handedVar))}
	wrongIns := []impl.InDef{{}, {Name: "a"}, {Type: typ("T", "")}, taken("\xff", plainVar), taken("", variable("", typ("Int", ""))), taken("", variable("1", typ("Int", ""))), taken("", variable("a", typ("", ""))), taken("", variable("a", typ("Int", "!!"))), taken("", variable("a", typ("Int", ""), wrongDir...)), taken("", variable("a", typ("Int", ""), notConst...)), taken("", defaulted(plainVar, impl.Value{})), taken("", defaulted(plainVar, handedVar)), {Name: "a", Type: typ("Int", ""), Default: handedOne}}
	for _, d := range wrongIns {
		wantIn(t, "", d)
		for _, kind := range []int{6, 7} {
			wantDef(t, "", fed(least(kind), append(slices.Repeat([]impl.InDef{plainIn}, 100), d)...))
		}
	}
	for _, d := range []impl.FieldDef{{}, {Name: "f"}, {Type: typ("T", "")}, member("\xff", "f", typ("T", "")), member("", "", typ("T", "")), member("", "1", typ("T", "")), member("", "f", typ("", "")), member("", "f", typ("T", "!!")), steeredMember(plainMember, wrongDir...), steeredMember(plainMember, notConst...), member("", "f", typ("T", ""), wrongIns[0]), member("", "f", typ("T", ""), plainIn, wrongIns[3], plainIn), member("", "f", typ("T", ""), append(slices.Repeat([]impl.InDef{plainIn}, 100), wrongIns[11])...)} {
		wantField(t, "", d)
		for kind := range fieldKinds {
			wantDef(t, "", fielded(least(kind), append(slices.Repeat([]impl.FieldDef{plainMember}, 100), d)...))
		}
	}
	for _, d := range []impl.EnumDef{{}, choice("", ""), choice("", "1"), choice("\xff", "A"), choice("", "true"), choice("", "false"), choice("", "null"), choice("", "A", wrongDir...), choice("", "A", notConst...)} {
		wantChoice(t, "", d)
		wantDef(t, "", valued(least(5), append(slices.Repeat([]impl.EnumDef{plainChoice}, 100), d)...))
	}
}

func TestZeroValuesOfDefinitions(t *testing.T) {
	wantIn(t, "", impl.InDef{})
	wantField(t, "", impl.FieldDef{})
	wantChoice(t, "", impl.EnumDef{})
	wantRoot(t, "", impl.Root{})
	wantDef(t, "", impl.Def{})
	wantDef(t, "", impl.Def{Name: "T"})
	wantDef(t, "", added(impl.Def{}))
	for kind := 1; kind <= 8; kind++ {
		wantDef(t, "", impl.Def{Kind: kind})
		wantDef(t, "", impl.Def{Kind: kind, Ext: true})
		wantDefRight(t, kind < 7, impl.Def{Kind: kind, Name: "T"})
		wantDef(t, "", faced(least(kind), ""))
		wantDef(t, "", fielded(least(kind), impl.FieldDef{}))
		wantDef(t, "", fed(least(kind), impl.InDef{}))
		wantDef(t, "", valued(least(kind), impl.EnumDef{}))
		wantDef(t, "", rooted(least(kind), impl.Root{}))
		wantDef(t, "", steeredDef(least(kind), impl.Dir{}))
	}
	wantDef(t, "type T\n", impl.Def{Kind: 2, Name: "T", Faces: []string{}, Fields: []impl.FieldDef{}, Inputs: make([]impl.InDef, 0, 3), Values: []impl.EnumDef{}, Roots: []impl.Root{}, Dirs: make([]impl.Dir, 0, 3)})
}

// Every mix of parts, right or not, at each of the kinds.
func TestEveryMixOfPartsOfDefinitions(t *testing.T) {
	right := 0
	type lists struct {
		fields []impl.FieldDef
		inputs []impl.InDef
		values []impl.EnumDef
		roots  []impl.Root
	}
	mixes := []lists{}
	for i := range 16 {
		mixes = append(mixes, lists{[]impl.FieldDef{plainMember}[:i%2], []impl.InDef{plainIn}[:i/2%2], []impl.EnumDef{plainChoice}[:i/4%2], []impl.Root{plainRoot}[:i/8]})
	}
	for kind := -1; kind <= 10; kind++ {
		for _, name := range []string{"", "T", "1"} {
			for _, faces := range [][]string{nil, {"A"}, {"A", "B"}, {"QUERY"}, {"QUERY", "FIELD"}, {"1"}} {
				for _, mix := range mixes {
					for _, dirs := range [][]impl.Dir{nil, oneDir, {dir("d", arg("e", handedVar))}} {
						for i := range 12 {
							d := impl.Def{Kind: kind, Ext: i%2 > 0, Desc: []string{"", "d", "\xff"}[i/4], Name: name, Faces: faces, Fields: mix.fields, Inputs: mix.inputs, Values: mix.values, Roots: mix.roots, Repeat: i/2%2 > 0, Dirs: dirs}
							text := defOracle(d)
							wantDef(t, text, d)
							if text != "" {
								right++
							}
						}
					}
				}
			}
		}
	}
	// In the order of the kinds: those that are told for the first time, and those that are added.
	told := 2*2 + 2*(2*5*2*2) + 2*5*2 + 2*2*2 + 2*2*2 + 2*2*2*2 + 2*2
	more := 1 + 2*(5*2*2-1) + (5*2 - 1) + (2*2 - 1) + (2*2 - 1) + (2*2 - 1)
	if right != told+more {
		t.Errorf("%d right definitions, not %d", right, told+more)
	}
}

func TestEveryMixOfPartsOfFields(t *testing.T) {
	right := 0
	for _, name := range []string{"", "f", "true", "1"} {
		for _, desc := range []string{"", "d", "\xff"} {
			for _, x := range []impl.Type{{}, typ("T", ""), typ("T", "!]!"), typ("T", "!!"), typ("1", "")} {
				for _, args := range [][]impl.InDef{nil, {}, {plainIn}, {plainIn, taken("d", plainVar)}, {{}}} {
					for _, dirs := range [][]impl.Dir{nil, {}, oneDir, {dir("d", arg("e", handedOne))}, {dir("d", arg("e", handedVar))}, {{}}} {
						d := impl.FieldDef{Name: name, Desc: desc, Args: args, Type: x, Dirs: dirs}
						text, ok := fieldOracle(d)
						wantFieldText(t, orNothing(ok, text), d)
						if ok {
							right++
						}
					}
				}
			}
		}
	}
	if right != 2*2*2*4*4 {
		t.Errorf("%d right fields", right)
	}
}

func TestEveryMixOfPartsOfInputs(t *testing.T) {
	right := 0
	for _, name := range []string{"", "a", "true", "1"} {
		for _, desc := range []string{"", "d", "\xff"} {
			for _, x := range []impl.Type{{}, typ("T", ""), typ("T", "!]!"), typ("T", "!!")} {
				for _, has := range []bool{false, true} {
					for _, value := range []impl.Value{{}, handedOne, handedVar, listOf(handedVar), listOf(), {Text: "a"}, val(impl.VlInt, "01")} {
						for _, dirs := range [][]impl.Dir{nil, {}, oneDir, {dir("d", arg("e", handedVar))}, {{}}} {
							d := impl.InDef{Name: name, Desc: desc, Type: x, Has: has, Default: value, Dirs: dirs}
							text, ok := inOracle(d)
							wantInText(t, orNothing(ok, text), d)
							if ok {
								right++
							}
						}
					}
				}
			}
		}
	}
	if right != 2*2*2*(1+2)*3 {
		t.Errorf("%d right inputs", right)
	}
}

func TestEveryMixOfPartsOfValuesOfAnEnum(t *testing.T) {
	right := 0
	for _, name := range []string{"", "A", "on", "1", "true", "false", "null"} {
		for _, desc := range []string{"", "d", "\"", "\xff"} {
			for _, dirs := range [][]impl.Dir{nil, {}, oneDir, {dir("d", arg("e", handedOne))}, {dir("d", arg("e", handedVar))}, {{}}} {
				text, ok := choiceOracle(choice(desc, name, dirs...))
				wantChoice(t, orNothing(ok, text), choice(desc, name, dirs...))
				if ok {
					right++
				}
			}
		}
	}
	if right != 2*3*4 {
		t.Errorf("%d right values", right)
	}
}

// The chapter names no limit of its own: there may be many parts, and the text may be longer than a source may be.
func TestDefinitionsMayBeLong(t *testing.T) {
	many := 3000
	ins, fields, values, roots, faces, places, dirs := slices.Repeat([]impl.InDef{plainIn}, many), slices.Repeat([]impl.FieldDef{plainMember}, many), slices.Repeat([]impl.EnumDef{plainChoice}, many), slices.Repeat([]impl.Root{plainRoot}, many), slices.Repeat([]string{"A"}, many), slices.Repeat([]string{"ENUM"}, many), slices.Repeat([]impl.Dir{dir("d")}, many)
	args := "(" + strings.Repeat("a: Int, ", many-1) + "a: Int)"
	wantDef(t, "input T"+strings.Repeat(" @d", many)+" {\n"+strings.Repeat("  a: Int\n", many)+"}\n", steeredDef(fed(bare(6), ins...), dirs...))
	wantDef(t, "directive @T"+args+" on "+strings.Repeat("ENUM | ", many-1)+"ENUM\n", fed(faced(bare(7), places...), ins...))
	wantDef(t, "type T implements "+strings.Repeat("A & ", many-1)+"A {\n"+strings.Repeat("  f: T\n", many)+"}\n", fielded(faced(bare(2), faces...), fields...))
	wantDef(t, "union T = "+strings.Repeat("A | ", many-1)+"A\n", faced(bare(4), faces...))
	wantDef(t, "enum T {\n"+strings.Repeat("  A\n", many)+"}\n", valued(bare(5), values...))
	wantDef(t, "schema {\n"+strings.Repeat("  query: Q\n", many)+"}\n", rooted(bare(8), roots...))
	wantFieldText(t, "  f"+args+": T"+strings.Repeat(" @d", many)+"\n", steeredMember(member("", "f", typ("T", ""), ins...), dirs...))
	long := val(impl.VlString, strings.Repeat("\x01", 200))
	wantIn(t, "a: Int = ["+strings.Repeat("\""+strings.Repeat("\\u0001", 200)+"\", ", 99)+"\""+strings.Repeat("\\u0001", 200)+"\"]", taken("", defaulted(plainVar, listOf(slices.Repeat([]impl.Value{long}, 100)...))))
}

// A stack of calls that went as deep as these would be refused, and with it all tests.
func TestDefinitionsDeeperThanCallsCanGo(t *testing.T) {
	defer debug.SetMaxStack(debug.SetMaxStack(256 << 10))
	ring := []impl.Value{{Kind: impl.VlList}}
	ring[0].Items = ring
	rings := []impl.Value{{Kind: impl.VlObject, Names: []string{"a", "b"}}, {Kind: impl.VlList}}
	rings[0].Items, rings[1].Items = rings, rings
	for _, value := range []impl.Value{within(handedOne, 200000, inList, inObject), within(handedVar, 200000, inList), ring[0], rings[0], rings[1]} {
		dirs := []impl.Dir{dir("d", arg("e", handedOne), arg("e", value))}
		for _, v := range []impl.VarDef{defaulted(plainVar, value), {Name: "a", Type: plainVar.Type, Default: value}, variable("a", plainVar.Type, dirs...)} {
			in := taken("d", v)
			f := member("", "f", typ("T", ""), plainIn, in)
			if impl.InText(in) != "" || impl.FieldText(f) != "" {
				t.Error("what has a very deep value is right")
			}
			for _, d := range []impl.Def{fed(bare(6), in), fed(least(7), in), fielded(bare(2), f), fielded(bare(3), plainMember, f)} {
				if impl.DefOk(d) || impl.DefText(d) != "" {
					t.Error("what has a very deep value is right")
				}
			}
		}
		if impl.FieldText(steeredMember(plainMember, dirs...)) != "" {
			t.Error("what has a very deep value is right")
		}
		defs := []impl.Def{valued(bare(5), choice("", "A", dirs...)), fielded(bare(2), steeredMember(plainMember, dirs...))}
		for kind := 1; kind <= 8; kind++ {
			defs = append(defs, steeredDef(least(kind), dirs...), added(steeredDef(bare(kind), dirs...)))
		}
		for _, d := range defs {
			if impl.DefOk(d) || impl.DefText(d) != "" {
				t.Error("what has a very deep value is right")
			}
		}
	}
}

// insWithRoom is the same list, with room behind it, and behind each list in it, in which something stands already.
func insWithRoom(list []impl.InDef) []impl.InDef {
	ins := []impl.InDef{}
	for _, d := range list {
		d.Default, d.Dirs = withRoom(d.Default), dirsWithRoom(d.Dirs)
		ins = append(ins, d)
	}
	return append(ins, taken("room", plainVar), taken("room", plainVar))[:len(list)]
}

func fieldsWithRoom(list []impl.FieldDef) []impl.FieldDef {
	fields := []impl.FieldDef{}
	for _, d := range list {
		d.Args, d.Dirs = insWithRoom(d.Args), dirsWithRoom(d.Dirs)
		fields = append(fields, d)
	}
	return append(fields, member("room", "r", typ("R", "")), member("room", "s", typ("S", "")))[:len(list)]
}

func defWithRoom(d impl.Def) impl.Def {
	values := []impl.EnumDef{}
	for _, x := range d.Values {
		values = append(values, choice(x.Desc, x.Name, dirsWithRoom(x.Dirs)...))
	}
	d.Values = append(values, choice("room", "R"), choice("room", "S"))[:len(values)]
	d.Fields, d.Inputs, d.Dirs = fieldsWithRoom(d.Fields), insWithRoom(d.Inputs), dirsWithRoom(d.Dirs)
	d.Faces = append(slices.Clone(d.Faces), "room1", "room2")[:len(d.Faces)]
	d.Roots = append(slices.Clone(d.Roots), root(77, "room"), root(78, "room"))[:len(d.Roots)]
	return d
}

func wholeOfIns(list []impl.InDef) string {
	text := fmt.Sprint(len(list))
	for _, d := range list[:cap(list)] {
		text += fmt.Sprintf(" <%q %q %q %v %s %s>", d.Name, d.Desc, d.Type, d.Has, wholeOf(d.Default), wholeOfDirs(d.Dirs))
	}
	return text
}

func wholeOfDef(d impl.Def) string {
	text := fmt.Sprintf("%d %v %q %q %q %v %v %d %d %d", d.Kind, d.Ext, d.Desc, d.Name, d.Faces[:cap(d.Faces)], d.Roots[:cap(d.Roots)], d.Repeat, len(d.Faces), len(d.Fields), len(d.Values))
	for _, x := range d.Fields[:cap(d.Fields)] {
		text += fmt.Sprintf(" <%q %q %q %s %s>", x.Name, x.Desc, x.Type, wholeOfIns(x.Args), wholeOfDirs(x.Dirs))
	}
	for _, x := range d.Values[:cap(d.Values)] {
		text += fmt.Sprintf(" <%q %q %s>", x.Name, x.Desc, wholeOfDirs(x.Dirs))
	}
	return text + wholeOfIns(d.Inputs) + wholeOfDirs(d.Dirs)
}

func TestNothingIsWrittenIntoDefinitions(t *testing.T) {
	dirs := []impl.Dir{dir("d", arg("e", listOf(handedOne, objectOf("x y", handedText, listOf(handedOne)))), arg("f", handedOne)), dir("g")}
	ins := []impl.InDef{plainIn, taken("x", defaulted(variable("b", typ("T", "]!"), dirs...), listOf(objectOf("x", handedOne), listOf()))), taken("", variable("c", typ("T", ""), dirs...))}
	whole := impl.Def{Name: "T", Faces: []string{"ENUM", "FIELD", "QUERY"}, Fields: []impl.FieldDef{plainMember, steeredMember(member("x", "g", typ("T", "!"), ins...), dirs...)}, Inputs: ins, Values: []impl.EnumDef{plainChoice, choice("x", "B", dirs...)}, Roots: []impl.Root{plainRoot, root(2, "M")}, Dirs: dirs}
	for kind := range 10 {
		one := whole
		one.Kind = kind
		// Of each kind one with all there is, which is not right, and one that has all that it may have.
		all := []impl.Def{one, added(one), described("d", one), {}}
		switch kind {
		case 2, 3:
			all = append(all, fed(valued(rooted(one))))
		case 4:
			all = append(all, fielded(fed(valued(rooted(one)))))
		case 5:
			all = append(all, fielded(fed(faced(rooted(one)))))
		case 6:
			all = append(all, fielded(faced(valued(rooted(one)))))
		case 7:
			all = append(all, repeated(steeredDef(fielded(valued(rooted(one))))))
		case 8:
			all = append(all, named(faced(fielded(fed(valued(one)))), ""))
		}
		for _, d := range all {
			for _, changed := range []impl.Def{d, added(d), named(d, "1"), described("\xff", d)} {
				held := defWithRoom(changed)
				ahead := wholeOfDef(held)
				for range 2 {
					wantDefAsOracle(t, held)
					for _, x := range held.Fields {
						text, _ := fieldOracle(x)
						wantFieldText(t, text, x)
					}
					for _, x := range held.Inputs {
						text, _ := inOracle(x)
						wantInText(t, text, x)
					}
				}
				if got := wholeOfDef(held); got != ahead {
					t.Errorf("%s has become %s", ahead, got)
				}
			}
		}
		if kind > 1 && kind < 9 && !slices.ContainsFunc(all, impl.DefOk) {
			t.Errorf("no right one of kind %d", kind)
		}
	}
}

func TestDefinitionsKeepNothing(t *testing.T) {
	d := described("d", steeredDef(faced(fielded(bare(2), member("", "f", typ("T", ""), plainIn)), "A"), dir("d")))
	for range 3 {
		wantDef(t, "\"d\"\ntype T implements A @d {\n  f(a: Int): T\n}\n", d)
		wantDef(t, "", added(d))
		wantDef(t, "directive @T on FIELD\n", least(7))
		wantDef(t, "", added(least(7)))
		wantIn(t, "", impl.InDef{})
		wantField(t, "  f: T\n", plainMember)
		if !impl.PlaceOk("ENUM") || impl.PlaceOk("enum") {
			t.Error("PlaceOk has changed its mind")
		}
	}
	// What was handed in may be changed behind the call: the answer does not.
	d.Fields = slices.Clone(d.Fields)
	d.Fields[0].Args = slices.Clone(d.Fields[0].Args)
	text := impl.DefText(d)
	d.Faces[0], d.Dirs[0].Name, d.Fields[0].Name, d.Fields[0].Args[0].Name = "B", "e", "g", "b"
	wantDef(t, "\"d\"\ntype T implements B @e {\n  g(b: Int): T\n}\n", d)
	if text != "\"d\"\ntype T implements A @d {\n  f(a: Int): T\n}\n" {
		t.Errorf("%q", text)
	}
}
