package tests

import (
	"fmt"
	"math"
	"reflect"
	"runtime/debug"
	"slices"
	"strings"
	"testing"

	"loop.example/g00964/impl"
)

func opItem(o impl.Op) impl.Item { return impl.Item{Kind: impl.ItOp, Op: o} }

func fragItem(f impl.Frag) impl.Item { return impl.Item{Kind: impl.ItFrag, Frag: f} }

func defItem(d impl.Def) impl.Item { return impl.Item{Kind: impl.ItDef, Def: d} }

func docOf(items ...impl.Item) impl.Doc { return impl.Doc{Items: items} }

// The chapter's words as a table: what stands for what, with `/` between several ways. The way is taken that begins with the token ahead; where none does, the one of nothing, if there is one.
// A name with a large letter stands for what its line says; one with a small letter is any token of its kind; a word with ' is itself, and so is a sign. # is something to be done, and what is ahead of _ names what is counted or left out.
const docGrammar = `
Doc: #item Item Items
Items: #item Item Items /
Item: +query #sels Sels / 'query Op / 'mutation Op / 'subscription Op / 'fragment piece 'on name Dirs #sels Sels / desc Told / 'extend Added / Told
Op: Name Vars Dirs #sels Sels
Name: name /
Vars: ( Var MoreVars ) /
MoreVars: Var MoreVars /
Var: $ name : #type Type Default ConstDirs
Default: = Const /
Type: name Bang / type_[ Type type_] Bang
Bang: type_! /
Sels: sels_{ Sel MoreSels sels_}
MoreSels: Sel MoreSels /
Sel: sel_name Alias Args Dirs Inner / sel_... Points
Alias: : name /
Inner: Sels /
Points: 'on name Dirs Sels / piece Dirs / Dirs Sels
Dirs: @ name Args Dirs /
Args: ( Arg MoreArgs ) /
MoreArgs: Arg MoreArgs /
Arg: name : Value
Value: $ name / int / float / text / name / value_[ Values value_] / value_{ MoreArgs value_}
Values: Value Values /
ConstDirs: ConstDir ConstDirs /
ConstDir: @ name ConstArgs
ConstArgs: ( ConstArg MoreConstArgs ) /
MoreConstArgs: ConstArg MoreConstArgs /
ConstArg: name : Const
Const: int / float / text / name / value_[ Consts value_] / value_{ MoreConstArgs value_}
Consts: Const Consts /
Told: 'scalar name ConstDirs / 'type name Faced ConstDirs Fields / 'interface name Faced ConstDirs Fields / 'union name ConstDirs Members / 'enum name ConstDirs Choices / 'input name ConstDirs Inputs / 'directive @ name Ins Repeat 'on Bar place Places / 'schema ConstDirs SomeRoots
Added: 'scalar name ConstDir ConstDirs / 'type name AddedFields / 'interface name AddedFields / 'union name AddedMembers / 'enum name AddedChoices / 'input name AddedInputs / 'schema AddedRoots
Faced: SomeFaced /
SomeFaced: 'implements And name Ands
And: left_& /
Ands: & name Ands /
Bar: left_| /
Bars: | name Bars /
Places: | place Places /
Fields: SomeFields /
SomeFields: { Field MoreFields }
MoreFields: Field MoreFields /
Field: Desc name Ins : #type Type ConstDirs
AddedFields: SomeFaced ConstDirs Fields / ConstDir ConstDirs Fields / SomeFields
Desc: desc /
Ins: ( In MoreIns ) /
MoreIns: In MoreIns /
In: Desc name : #type Type Default ConstDirs
Members: SomeMembers /
SomeMembers: = Bar name Bars
AddedMembers: ConstDir ConstDirs Members / SomeMembers
Choices: SomeChoices /
SomeChoices: { Choice MoreChoices }
MoreChoices: Choice MoreChoices /
Choice: Desc choice ConstDirs
AddedChoices: ConstDir ConstDirs Choices / SomeChoices
Inputs: SomeInputs /
SomeInputs: { In MoreIns }
AddedInputs: ConstDir ConstDirs Inputs / SomeInputs
Repeat: 'repeatable /
Roots: SomeRoots /
SomeRoots: { Root MoreRoots }
MoreRoots: Root MoreRoots /
Root: Word : name
Word: 'query / 'mutation / 'subscription
AddedRoots: ConstDir ConstDirs Roots / SomeRoots
`

var docWays = func() map[string][][]string {
	ways := map[string][][]string{}
	for _, line := range strings.Split(strings.TrimSpace(docGrammar), "\n") {
		name, rest, _ := strings.Cut(line, ":")
		for _, way := range strings.Split(rest+" ", " / ") {
			ways[name] = append(ways[name], strings.Fields(way))
		}
	}
	return ways
}()

// What still has to come, the next one last; what was counted; and the tokens as they would be printed.
type docMachine struct {
	waiting []string
	counted map[string]int
	pieces  []string
}

func (m *docMachine) stands(symbol string, token impl.Token) bool {
	_, symbol = cutMark(symbol)
	isName := token.Kind == impl.TkName
	switch symbol {
	case "name":
		return isName
	case "piece":
		return isName && token.Text != "on"
	case "choice":
		return isName && !slices.Contains([]string{"true", "false", "null"}, token.Text)
	case "place":
		return isName && slices.Contains(allPlaces, token.Text)
	case "text", "desc":
		return token.Kind == impl.TkString
	case "int":
		return token.Kind == impl.TkInt
	case "float":
		return token.Kind == impl.TkFloat
	}
	if word, isWord := strings.CutPrefix(symbol, "'"); isWord {
		return isName && token.Text == word
	}
	return token.Kind == impl.TkSign && token.Text == symbol
}

func cutMark(symbol string) (string, string) {
	if mark, rest, marked := strings.Cut(symbol, "_"); marked {
		return mark, rest
	}
	return "", symbol
}

func (m *docMachine) begins(way []string, token impl.Token) bool {
	for _, symbol := range way {
		ways, others := docWays[symbol]
		switch {
		case strings.ContainsAny(symbol[:1], "#+"):
		case !others:
			return m.stands(symbol, token)
		case slices.ContainsFunc(ways, func(way []string) bool { return m.begins(way, token) }):
			return true
		case !slices.ContainsFunc(ways, func(way []string) bool { return len(way) == 0 }):
			return false
		}
	}
	return false
}

// What each mark counts: how much there may be, what is told of one more, and whether the sign takes one away.
func (m *docMachine) count(symbol string) int {
	mark, sign := cutMark(symbol)
	most, code := map[string]int{"item": 60, "sel": 120, "sels": 10, "value": 10, "type": 8}[mark], 8
	switch {
	case most == 0:
		return 0
	case mark == "sel" || mark == "item":
		code = 6
	case mark == "type" && sign == "[":
		mark = "brackets"
	case mark != "type" && strings.Contains("]}", sign):
		m.counted[mark]--
		return 0
	}
	if m.counted[mark] == most {
		return code
	}
	m.counted[mark]++
	return 0
}

func (m *docMachine) take(symbol string, token impl.Token) {
	text := token.Text
	if token.Kind == impl.TkString {
		text = escapedOracle(text)
	}
	if !strings.HasPrefix(symbol, "left_") && !(symbol == "desc" && token.Text == "") {
		m.pieces = append(m.pieces, text)
	}
}

// step sees to one of what has to come, and tells whether the token is taken.
func (m *docMachine) step(symbol string, token impl.Token) (bool, int) {
	ways, others := docWays[symbol]
	switch {
	case symbol == "#item":
		return false, m.count("item_")
	case symbol == "#sels":
		m.counted["sel"], m.counted["sels"] = 0, 0
		return false, 0
	case symbol == "#type":
		m.counted["type"], m.counted["brackets"] = 0, 0
		return false, 0
	case symbol == "+query":
		m.pieces = append(m.pieces, "query")
		return false, 0
	case !others && !m.stands(symbol, token):
		return false, 7
	case !others:
		m.take(symbol, token)
		return true, m.count(symbol)
	}
	for _, way := range ways {
		if len(way) == 0 || m.begins(way, token) {
			for _, symbol := range slices.Backward(way) {
				m.waiting = append(m.waiting, symbol)
			}
			return false, 0
		}
	}
	return false, 7
}

// parseOracle tells the texts of the tokens that a document is printed with, or its fault.
func parseOracle(s string) ([]string, impl.Fault) {
	tokens, fault := tokensOracle(s)
	if fault.Code != 0 {
		return nil, fault
	}
	tokens = append(tokens, impl.Token{At: len(s)})
	m := docMachine{waiting: []string{"Doc"}, counted: map[string]int{}}
	for len(m.waiting) > 0 {
		last := len(m.waiting) - 1
		symbol := m.waiting[last]
		m.waiting = m.waiting[:last]
		taken, code := m.step(symbol, tokens[0])
		if code != 0 {
			return nil, impl.Fault{Code: code, At: tokens[0].At}
		}
		if taken {
			tokens = tokens[1:]
		}
	}
	switch {
	case len(tokens) == 1:
		return m.pieces, impl.Fault{}
	case m.counted["item"] == 60:
		// What begins nothing else would begin a definition.
		return nil, impl.Fault{Code: 6, At: tokens[0].At}
	}
	return nil, impl.Fault{Code: 7, At: tokens[0].At}
}

// docPieces has the text of each token of a right document, `query` at each question, too.
func docPieces(d impl.Doc) []string {
	pieces := []string{}
	for _, item := range d.Items {
		switch item.Kind {
		case impl.ItOp:
			pieces = append(pieces, opPieces(item.Op)...)
		case impl.ItFrag:
			pieces = slices.Concat(pieces, []string{"fragment", item.Frag.Name, "on", item.Frag.On}, dirPieces(item.Frag.Dirs), selPieces(item.Frag.Sels))
		default:
			pieces = append(pieces, defPieces(item.Def)...)
		}
	}
	return slices.DeleteFunc(pieces, func(piece string) bool { return piece == "" || piece == "," })
}

// Only what is right has a text: one that is empty tells what is not.
func itemOracle(i impl.Item) string {
	parts := map[int]any{1: i.Op, 2: i.Frag, 3: i.Def}
	for kind, part := range parts {
		if kind != i.Kind && !sameOracle(reflect.ValueOf(part), reflect.Zero(reflect.TypeOf(part))) {
			return ""
		}
	}
	return map[int]string{1: opOracle(i.Op), 2: fragOracle(i.Frag), 3: defOracle(i.Def)}[i.Kind]
}

func docOkOracle(d impl.Doc) bool {
	right := len(d.Items) > 0 && len(d.Items) <= 60
	for _, item := range d.Items {
		right = right && itemOracle(item) != ""
	}
	return right
}

func printOracle(d impl.Doc) string {
	text := ""
	for i, item := range d.Items {
		told := itemOracle(item)
		if i > 0 && told != "" {
			text += "\n" + map[bool]string{true: "query "}[told[0] == '{']
		}
		text += told
	}
	tokens, _ := tokensOracle(text)
	if !docOkOracle(d) || len(text) > 12000 || len(tokens) == 0 {
		return ""
	}
	return text
}

// sameOracle knows no part by its name: an empty list and nil are the same, and nothing else is.
func sameOracle(a reflect.Value, b reflect.Value) bool {
	switch a.Kind() {
	case reflect.Struct:
		for i := range a.NumField() {
			if !sameOracle(a.Field(i), b.Field(i)) {
				return false
			}
		}
		return true
	case reflect.Slice:
		if a.Len() != b.Len() {
			return false
		}
		for i := range a.Len() {
			if !sameOracle(a.Index(i), b.Index(i)) {
				return false
			}
		}
		return true
	}
	return a.Interface() == b.Interface()
}

func sameDocOracle(a impl.Doc, b impl.Doc) bool {
	return sameOracle(reflect.ValueOf(a), reflect.ValueOf(b))
}

// eachOther has v be what is otherwise in one part alone, one part after the other; behind it v is what it was.
func eachOther(v reflect.Value, what string, see func(what string)) {
	held := reflect.New(v.Type()).Elem()
	held.Set(v)
	try := func(how string, other reflect.Value) {
		v.Set(other)
		see(what + how)
		v.Set(held)
	}
	switch v.Kind() {
	case reflect.Int:
		for _, by := range []int64{1, -1, 2, -2, 3, -3, 7, 8, 256, 1 << 32, math.MinInt} {
			try(fmt.Sprint(" by ", by), reflect.ValueOf(int(v.Int()+by)))
		}
	case reflect.Bool:
		try(" turned", reflect.ValueOf(!v.Bool()))
	case reflect.String:
		for _, text := range []string{"", "Z", "1", "on", "QUERY", "\xff", "!", held.String() + "a", held.String() + "\x00", " " + held.String()} {
			if text != held.String() {
				try(fmt.Sprintf(" as %q", text), reflect.ValueOf(text))
			}
		}
	case reflect.Struct:
		for i := range v.NumField() {
			eachOther(v.Field(i), what+"."+v.Type().Field(i).Name, see)
		}
	case reflect.Slice:
		eachOtherList(v, what, try, see)
		v.Set(held)
	}
}

func eachOtherList(v reflect.Value, what string, try func(string, reflect.Value), see func(string)) {
	held := reflect.MakeSlice(v.Type(), v.Len(), v.Len())
	reflect.Copy(held, v)
	some := func(from int, to int) reflect.Value { return held.Slice3(from, to, to) }
	many := held.Len()
	try(" and nothing", reflect.Append(some(0, many), reflect.Zero(v.Type().Elem())))
	for i := range many {
		try(fmt.Sprintf(" without %d", i), reflect.AppendSlice(some(0, i), some(i+1, many)))
		try(fmt.Sprintf(" with %d twice", i), reflect.AppendSlice(some(0, i+1), some(i, many)))
		if i > 0 && !sameOracle(held.Index(i-1), held.Index(i)) {
			swapped := reflect.AppendSlice(some(0, 0), held)
			swapped.Index(i - 1).Set(held.Index(i))
			swapped.Index(i).Set(held.Index(i - 1))
			try(fmt.Sprintf(" with %d ahead", i), swapped)
		}
	}
	v.Set(held)
	for i := range many {
		eachOther(v.Index(i), fmt.Sprintf("%s[%d]", what, i), see)
	}
}

func shownDoc(d impl.Doc) string {
	text := fmt.Sprint(len(d.Items))
	for _, item := range d.Items {
		text += fmt.Sprintf(" <%d (%s) (%s) (%s)>", item.Kind, shownOp(item.Op), shownFrag(item.Frag), shownDef(item.Def))
	}
	return text
}

func wantSameDoc(t *testing.T, same bool, a impl.Doc, b impl.Doc) {
	t.Helper()
	if impl.SameDoc(a, b) != same || impl.SameDoc(b, a) != same {
		t.Errorf("SameDoc is not %v: %.300s and %.300s", same, shownDoc(a), shownDoc(b))
	}
}

// wantParsed is for texts that are a document.
func wantParsed(t *testing.T, s string, items ...impl.Item) {
	t.Helper()
	got, fault := impl.Parse(s)
	if fault != (impl.Fault{}) || !sameDocOracle(got, docOf(items...)) {
		t.Errorf("Parse(%.300q): %.300s, %v, want %.300s", s, shownDoc(got), fault, shownDoc(docOf(items...)))
	}
	wantSameDoc(t, true, got, docOf(items...))
	if !impl.DocOk(got) {
		t.Errorf("DocOk of Parse(%.300q) is false", s)
	}
}

func wantNotParsed(t *testing.T, s string, code int, at int) {
	t.Helper()
	if got, fault := impl.Parse(s); fault != (impl.Fault{Code: code, At: at}) || len(got.Items) != 0 {
		t.Errorf("Parse(%.300q): %.300s, %v, want nothing and {%d %d}", s, shownDoc(got), fault, code, at)
	}
}

// wantRefused is for texts in which a ^ stands ahead of what can't be taken.
func wantRefused(t *testing.T, code int, texts ...string) {
	t.Helper()
	for _, marked := range texts {
		ahead, behind, found := strings.Cut(marked, "^")
		if !found {
			t.Errorf("there is no mark in %.300q", marked)
		}
		wantNotParsed(t, ahead+behind, code, len(ahead))
		wantParsedAsOracle(t, ahead+behind)
	}
}

// written has the lines of a text, with something else for a word in each of them.
func written(text string, word string, other string) []string {
	lines := []string{}
	for _, line := range strings.Split(text, "\n") {
		if line = strings.TrimLeft(line, "\t"); line != "" {
			lines = append(lines, strings.ReplaceAll(line, word, other))
		}
	}
	return lines
}

// wantSyntax is for texts, a line each, in which a ^ stands ahead of what can't stand there.
func wantSyntax(t *testing.T, text string) {
	t.Helper()
	wantRefused(t, impl.FtSyntax, written(text, "WORD", "")...)
}

func wantParsedAsOracle(t *testing.T, s string) {
	t.Helper()
	pieces, wrong := parseOracle(s)
	got, fault := impl.Parse(s)
	switch {
	case fault != wrong || wrong.Code != 0 && len(got.Items) != 0:
		t.Errorf("Parse(%.300q): %.300s, %v, want %v", s, shownDoc(got), fault, wrong)
	case wrong.Code == 0 && (!impl.DocOk(got) || !slices.Equal(docPieces(got), pieces)):
		t.Errorf("Parse(%.300q): %.300s, want %.300q", s, shownDoc(got), pieces)
	}
}

// wantItem is for right items: each has this text, and comes back from it as a document of its own.
func wantItem(t *testing.T, text string, i impl.Item) {
	t.Helper()
	if got := impl.ItemText(i); got != text || text == "" {
		t.Errorf("ItemText(%.300s): %.300q, want %.300q", shownDoc(docOf(i)), got, text)
	}
	if !impl.DocOk(docOf(i)) {
		t.Errorf("DocOk(%.300s) is false", shownDoc(docOf(i)))
	}
	wantParsed(t, text, i)
	if got := impl.Print(docOf(i)); got != text {
		t.Errorf("Print(%.300s): %.300q, want %.300q", shownDoc(docOf(i)), got, text)
	}
}

func fitsSource(text string) bool {
	tokens, _ := tokensOracle(text)
	return len(tokens) > 0
}

func wantItemAsOracle(t *testing.T, i impl.Item) {
	t.Helper()
	wantItem(t, itemOracle(i), i)
	text := strings.Join(docPieces(docOf(i)), " ")
	wantParsed(t, text, i)
	wantParsed(t, "\xef\xbb\xbf#{\r\n,\t"+text+",\n#}", i)
}

// wantDoc is for right documents: they have this text, and come back from it.
func wantDoc(t *testing.T, text string, d impl.Doc) {
	t.Helper()
	if !impl.DocOk(d) {
		t.Errorf("DocOk(%.300s) is false", shownDoc(d))
	}
	if got := impl.Print(d); got != text {
		t.Errorf("Print(%.300s): %.300q, want %.300q", shownDoc(d), got, text)
	}
	wantParsed(t, text, d.Items...)
}

// wantWrongDoc is for documents that are not right: they have no text.
func wantWrongDoc(t *testing.T, d impl.Doc) {
	t.Helper()
	if impl.DocOk(d) || impl.Print(d) != "" {
		t.Errorf("DocOk(%.300s): %v; Print: %.300q", shownDoc(d), impl.DocOk(d), impl.Print(d))
	}
}

var (
	plainOp   = opItem(question(impl.OpQuery, "", field("b")))
	plainFrag = fragItem(piece("F", "T", field("b")))
	plainDef  = defItem(bare(impl.DfScalar))
)

// Each of the kinds with all that it may have.
func fullItems() []impl.Item {
	value := listOf(handedOne, objectOf("x y", handedText, listOf(val(impl.VlWord, "true"), val(impl.VlEnum, "E"))))
	dirs := []impl.Dir{dir("d", arg("e", value), arg("f", val(impl.VlFloat, "1.5"))), dir("g")}
	vars := []impl.VarDef{variable("v", typ("T", "!]!"), dirs...), defaulted(variable("w", typ("U", ""), dirs...), value)}
	ins := []impl.InDef{taken("how", vars[0]), taken("", vars[1]), plainIn}
	held := given(directed(aliased("x", field("y", spread("S", dir("h", arg("v", handedVar))), directed(inline("T", field("z")), dirs...), inline("", field("w")))), dirs...), arg("i", handedVar), arg("j", value))
	fields := []impl.FieldDef{steeredMember(member("what", "f", typ("T", "]"), ins...), dirs...), plainMember}
	items := []impl.Item{fragItem(steeredPiece(piece("F", "T", held, field("b")), dirs...))}
	for kind := 1; kind <= 3; kind++ {
		items = append(items, opItem(steered(filled(question(kind, "Q", held, field("b")), vars...), dirs...)))
	}
	whole := steeredDef(impl.Def{Name: "T", Desc: "d"}, dirs...)
	for kind := 1; kind <= 8; kind++ {
		one := whole
		one.Kind = kind
		switch kind {
		case 2, 3:
			one = fielded(faced(one, "A", "B"), fields...)
		case 4:
			one = faced(one, "A", "B")
		case 5:
			one = valued(one, choice("what", "A", dirs...), plainChoice)
		case 6:
			one = fed(one, ins...)
		case 7:
			one = repeated(steeredDef(faced(fed(one, ins...), "FIELD", "ENUM")))
		case 8:
			one = named(rooted(one, root(1, "Q"), root(3, "S")), "")
		}
		items = append(items, defItem(one))
		if kind != 7 {
			items = append(items, defItem(added(described("", one))))
		}
	}
	return items
}

func TestDocsLimits(t *testing.T) {
	if got := [...]int{impl.ItOp, impl.ItFrag, impl.ItDef, impl.MaxItems}; got != [...]int{1, 2, 3, 60} {
		t.Errorf("%v", got)
	}
	// The constants are numbers, of no type of their own.
	if got := [...]any{int8(impl.ItOp), uint(impl.ItFrag), float64(impl.ItDef), uint8(impl.MaxItems), impl.Item{Kind: impl.ItDef}.Kind}; got != [...]any{int8(1), uint(2), float64(3), uint8(60), 3} {
		t.Errorf("%v", got)
	}
	if parsed, fault := impl.Parse("{b}"); !reflect.DeepEqual(parsed, docOf(parsed.Items[0])) || fault.Code != 0 {
		t.Errorf("%v", parsed)
	}
}

func TestEachQuestionComesBackFromItsText(t *testing.T) {
	seen, long := map[string]int{}, 0
	for i, o := range manyOps() {
		if !fitsSource(opOracle(o)) {
			long++
			continue
		}
		seen[fmt.Sprint(o.Kind, o.Name != "", len(o.Vars) > 0, len(o.Dirs) > 0)]++
		wantItem(t, opOracle(o), opItem(o))
		if i%7 == 0 {
			wantItemAsOracle(t, opItem(o))
		}
	}
	// As many mixes of parts as there are, of each of the three kinds.
	if len(seen) != 3*8 || long > 100 {
		t.Errorf("%d too long; %v", long, seen)
	}
}

func TestEachPieceComesBackFromItsText(t *testing.T) {
	dirs := manyDirs()
	for i, sels := range manySels() {
		f := piece(selNames[i%len(selNames)], selNames[(i/5)%len(selNames)], sels...)
		if f.Name == "on" {
			f.Name = "onn"
		}
		if i%2 == 1 {
			f.Dirs = dirs[i%len(dirs)]
		}
		if text := fragOracle(f); fitsSource(text) {
			wantItem(t, text, fragItem(f))
		}
		if i%7 == 0 {
			wantItemAsOracle(t, fragItem(f))
		}
	}
}

func TestEachDefinitionComesBackFromItsText(t *testing.T) {
	seen, long := map[int]map[string]int{}, 0
	for i, d := range manyDefs() {
		text := defOracle(d)
		if !fitsSource(text) {
			long++
			continue
		}
		if seen[d.Kind] == nil {
			seen[d.Kind] = map[string]int{}
		}
		seen[d.Kind][defParts(d)]++
		wantItem(t, text, defItem(d))
		if i%9 == 0 {
			wantItemAsOracle(t, defItem(d))
		}
	}
	// As many mixes as there are: those that are told for the first time, and those that are added.
	for kind, want := range map[int]int{1: 4 + 1, 2: 16 + 7, 3: 16 + 7, 4: 8 + 3, 5: 8 + 3, 6: 8 + 3, 7: 8, 8: 4 + 3} {
		if len(seen[kind]) != want {
			t.Errorf("of kind %d there is %v", kind, seen[kind])
		}
	}
	if long > 1000 {
		t.Errorf("%d are too long", long)
	}
}

func TestFullItemsComeBack(t *testing.T) {
	for _, item := range fullItems() {
		wantItemAsOracle(t, item)
		for _, gap := range allGaps {
			wantParsed(t, gap+strings.Join(docPieces(docOf(item)), gap+" "), item)
		}
	}
}

func TestFieldsInputsAndChoicesComeBack(t *testing.T) {
	for i, d := range manyFields() {
		if one := fielded(bare(2+i%2), d, plainMember, d); i%11 == 0 && fitsSource(defOracle(one)) {
			wantItem(t, defOracle(one), defItem(one))
		}
	}
	for i, d := range manyIns() {
		if one := fed(least(6+i%2), d, plainIn, d); i%11 == 0 {
			wantItem(t, defOracle(one), defItem(one))
		}
	}
	for _, desc := range rightDescs {
		for kind := 1; kind <= 8; kind++ {
			wantItemAsOracle(t, defItem(described(desc, least(kind))))
		}
		wantItemAsOracle(t, defItem(valued(bare(5), choice(desc, "A"), plainChoice, choice(desc, "B", oneDir...))))
		wantItemAsOracle(t, defItem(fielded(bare(2), member(desc, "f", typ("T", ""), taken(desc, plainVar)))))
		wantItemAsOracle(t, defItem(fed(bare(6), taken(desc, plainVar), taken(desc, plainVar))))
	}
	for i, list := range constDirs() {
		if i%3 != 0 {
			continue
		}
		wantItemAsOracle(t, defItem(steeredDef(fielded(bare(2), steeredMember(plainMember, list...), plainMember), list...)))
		wantItemAsOracle(t, defItem(valued(bare(5), choice("", "A", list...), plainChoice)))
	}
}

func TestItemsWrittenOut(t *testing.T) {
	b := field("b")
	for _, one := range []struct {
		text string
		i    impl.Item
	}{
		{"{\n  b\n}\n", plainOp},
		{"mutation {\n  b\n}\n", opItem(question(2, "", b))},
		{"subscription S @d {\n  b\n}\n", opItem(steered(question(3, "S", b), oneDir...))},
		{"query Q {\n  b\n}\n", opItem(question(1, "Q", b))},
		{"query($a: Int) {\n  b\n}\n", opItem(filled(question(1, "", b), plainVar))},
		{"query @d {\n  b\n}\n", opItem(steered(question(1, "", b), oneDir...))},
		{"fragment F on T {\n  b\n}\n", plainFrag},
		{"fragment F on T @d {\n  b\n}\n", fragItem(steeredPiece(piece("F", "T", b), oneDir...))},
		{"scalar T\n", plainDef},
		{"type T {\n  f: T\n}\n", defItem(fielded(bare(2), plainMember))},
		{"interface T implements A & B\n", defItem(faced(bare(3), "A", "B"))},
		{"union T = A | B\n", defItem(faced(bare(4), "A", "B"))},
		{"enum T {\n  A\n}\n", defItem(valued(bare(5), plainChoice))},
		{"extend input T {\n  a: Int\n}\n", defItem(added(fed(bare(6), plainIn)))},
		{"directive @T(a: Int) repeatable on FIELD\n", defItem(repeated(fed(least(7), plainIn)))},
		{"\"x\"\nschema {\n  query: Q\n}\n", defItem(described("x", least(8)))},
	} {
		wantItem(t, one.text, one.i)
		if got := itemOracle(one.i); got != one.text {
			t.Errorf("by the chapter's words: %q, not %q", got, one.text)
		}
	}
}

func TestItemTextHangsOnTheKind(t *testing.T) {
	// All three are there, and each is right: the one of the Kind counts.
	all := impl.Item{Op: plainOp.Op, Frag: plainFrag.Frag, Def: plainDef.Def}
	texts := map[int]string{1: "{\n  b\n}\n", 2: "fragment F on T {\n  b\n}\n", 3: "scalar T\n"}
	for kind := -300; kind <= 300; kind++ {
		all.Kind = kind
		if got := impl.ItemText(all); got != texts[kind] {
			t.Errorf("ItemText of kind %d: %q", kind, got)
		}
		wantWrongDoc(t, docOf(all))
		if got := impl.ItemText(impl.Item{Kind: kind}); got != "" {
			t.Errorf("ItemText of kind %d of nothing: %q", kind, got)
		}
	}
	for _, kind := range noOpKinds {
		all.Kind = kind
		if got := impl.ItemText(all); got != texts[kind] {
			t.Errorf("ItemText of kind %d: %q", kind, got)
		}
	}
	// What is not right has no text, and what stands beside it is not told.
	for kind := 1; kind <= 3; kind++ {
		wrong := impl.Item{Kind: kind, Op: plainOp.Op, Frag: plainFrag.Frag, Def: plainDef.Def}
		switch kind {
		case 1:
			wrong.Op.Name = "1"
		case 2:
			wrong.Frag.Name = "on"
		case 3:
			wrong.Def.Name = ""
		}
		if got := impl.ItemText(wrong); got != "" {
			t.Errorf("ItemText of a wrong one of kind %d: %q", kind, got)
		}
	}
	// Only a document is ever too long.
	long := defItem(faced(bare(4), slices.Repeat([]string{"A"}, 4000)...))
	if got := impl.ItemText(long); got != "union T = "+strings.Repeat("A | ", 3999)+"A\n" {
		t.Errorf("ItemText of a long one has %d bytes", len(got))
	}
	if !impl.DocOk(docOf(long)) || impl.Print(docOf(long)) != "" {
		t.Error("a long one is not right, or has a print")
	}
}

func TestHowManyItemsADocumentHas(t *testing.T) {
	for _, none := range []impl.Doc{{}, {Items: []impl.Item{}}, {Items: make([]impl.Item, 0, 3)}} {
		wantWrongDoc(t, none)
	}
	for _, item := range []impl.Item{plainOp, plainFrag, plainDef} {
		for _, many := range []int{1, 2, 3, 30, 59, 60, 61, 62, 120, 1000} {
			d := docOf(slices.Repeat([]impl.Item{item}, many)...)
			if many > 60 {
				wantWrongDoc(t, d)
			} else {
				wantDoc(t, printOracle(d), d)
			}
		}
	}
	wantDoc(t, strings.Repeat("scalar T\n\n", 59)+"scalar T\n", docOf(slices.Repeat([]impl.Item{plainDef}, 60)...))
}

func TestKindsOfItemsThatAreNone(t *testing.T) {
	right := []impl.Item{plainOp, plainFrag, plainDef}
	for _, kind := range []int{0, 4, 5, 7, 8, -1, -2, -3, -4, 255, 256 + 1, 256 + 3, 1<<32 + 1, 1<<32 + 2, 1<<32 + 3, math.MinInt, math.MinInt + 1, math.MaxInt} {
		for _, item := range right {
			item.Kind = kind
			for _, list := range append(wrongAt(item, right...), []impl.Item{item}) {
				wantWrongDoc(t, docOf(list...))
			}
		}
		wantWrongDoc(t, docOf(impl.Item{Kind: kind}))
	}
	// The Kind of one and what there is of another one.
	for _, item := range right {
		for kind := 1; kind <= 3; kind++ {
			other := item
			if other.Kind = kind; kind != item.Kind {
				wantWrongDoc(t, docOf(other))
			}
		}
	}
}

// Each part of the two others alone makes an item wrong: a Kind, a flag, a name, a list with anything in it.
func TestTheOthersOfAnItemAreEmpty(t *testing.T) {
	seen := map[string]int{}
	for _, right := range fullItems() {
		wantDoc(t, itemOracle(right), docOf(right))
		for _, name := range []string{"Op", "Frag", "Def"} {
			item := right
			if name == []string{"", "Op", "Frag", "Def"}[item.Kind] {
				continue
			}
			part := reflect.ValueOf(&item).Elem().FieldByName(name)
			eachOther(part, name, func(what string) {
				seen[strings.Fields(what)[0]]++
				wantWrongDoc(t, docOf(item))
				wantWrongDoc(t, docOf(plainDef, item))
			})
			// What is empty there is as good as nothing.
			switch name {
			case "Op":
				item.Op = impl.Op{Vars: []impl.VarDef{}, Dirs: []impl.Dir{}, Sels: make([]impl.Sel, 0, 3)}
			case "Frag":
				item.Frag = impl.Frag{Dirs: make([]impl.Dir, 0, 3), Sels: []impl.Sel{}}
			case "Def":
				item.Def = impl.Def{Faces: []string{}, Fields: []impl.FieldDef{}, Inputs: []impl.InDef{}, Values: []impl.EnumDef{}, Roots: make([]impl.Root, 0, 3), Dirs: []impl.Dir{}}
			}
			wantDoc(t, itemOracle(right), docOf(item))
			// A right one of another kind is no more allowed.
			other := map[string]impl.Item{"Op": plainOp, "Frag": plainFrag, "Def": plainDef}[name]
			part.Set(reflect.ValueOf(other).FieldByName(name))
			wantWrongDoc(t, docOf(item))
		}
	}
	for _, part := range strings.Fields("Op.Kind Op.Name Op.Vars Op.Dirs Op.Sels Frag.Name Frag.On Frag.Dirs Frag.Sels Def.Kind Def.Ext Def.Desc Def.Name Def.Faces Def.Fields Def.Inputs Def.Values Def.Roots Def.Repeat Def.Dirs") {
		if seen[part] == 0 {
			t.Errorf("%s was never another one", part)
		}
	}
	if len(seen) != 20 {
		t.Errorf("%v", seen)
	}
}

func TestDocumentsOfWhichOnePartIsOtherwise(t *testing.T) {
	right, wrong := 0, 0
	for _, item := range fullItems() {
		d := docOf(item)
		eachOther(reflect.ValueOf(&d).Elem(), "", func(what string) {
			want := printOracle(d)
			if impl.DocOk(d) != (want != "") || impl.Print(d) != want {
				t.Errorf("%s: DocOk(%.300s) is %v; Print: %.300q, want %.300q", what, shownDoc(d), impl.DocOk(d), impl.Print(d), want)
			}
			if want == "" {
				wrong++
				return
			}
			right++
			wantParsed(t, want, d.Items...)
		})
	}
	if right < 2000 || wrong < 2000 {
		t.Errorf("%d right ones and %d wrong ones", right, wrong)
	}
}

func TestSameDocHoldsEachPart(t *testing.T) {
	seen := map[string]int{}
	items := fullItems()
	items = append(items, impl.Item{Kind: 7, Op: items[1].Op, Frag: items[0].Frag, Def: fielded(items[len(items)-1].Def, items[6].Def.Fields...)})
	for i, item := range items {
		other := items[(i+3)%len(items)]
		whole, d := docOf(item, other), docOf(item, other)
		wantSameDoc(t, true, whole, d)
		eachOther(reflect.ValueOf(&d).Elem(), "", func(what string) {
			seen[strings.Fields(what)[0]]++
			if impl.SameDoc(whole, d) || impl.SameDoc(d, whole) {
				t.Errorf("SameDoc of one that is otherwise in %s is true", what)
			}
			if !impl.SameDoc(d, d) {
				t.Errorf("SameDoc of one and itself is false: %s", what)
			}
		})
		wantSameDoc(t, true, whole, d)
	}
	for _, part := range strings.Fields(".Items .Items[0].Kind .Items[0].Op.Kind .Items[0].Op.Vars[1].Has .Items[0].Op.Vars[1].Default.Items[1].Names[0] .Items[0].Op.Sels[0].Sels[1].On .Items[0].Frag.On .Items[0].Def.Repeat .Items[0].Def.Fields[0].Args[0].Type.Wraps .Items[0].Def.Inputs[1].Desc .Items[0].Def.Values[0].Dirs[0].Args[1].Value.Text .Items[0].Def.Roots[1].Type .Items[1].Def.Faces .Items[0].Def.Fields[0].Desc .Items[1].Def.Ext") {
		if seen[part] == 0 {
			t.Errorf("%s was never another one", part)
		}
	}
}

func TestSameDocOfAnyTwo(t *testing.T) {
	docs := []impl.Doc{{}, {Items: []impl.Item{}}, docOf(impl.Item{}), docOf(impl.Item{}, impl.Item{}), docOf(impl.Item{Kind: 1}), docOf(impl.Item{Kind: -1})}
	items := append(fullItems(), plainOp, plainFrag, plainDef)
	for i, item := range items {
		next := items[(i+1)%len(items)]
		docs = append(docs, docOf(item), docOf(item, item), docOf(item, next), docOf(next, item), docOf(item, next, item))
	}
	same := 0
	for _, a := range docs {
		for _, b := range docs {
			want := sameDocOracle(a, b)
			wantSameDoc(t, want, a, b)
			if want {
				same++
			}
		}
	}
	// The first two, which are nothing, and each with itself.
	if same != len(docs)+2 {
		t.Errorf("%d are the same", same)
	}
}

// An empty list and nil are the same, wherever they stand.
func TestSameDocOfEmptyLists(t *testing.T) {
	none := impl.Item{Kind: 3, Op: impl.Op{Vars: []impl.VarDef{{}}, Dirs: []impl.Dir{{}}, Sels: []impl.Sel{{}}}, Frag: impl.Frag{Dirs: []impl.Dir{{}}, Sels: []impl.Sel{{}}}, Def: impl.Def{Fields: []impl.FieldDef{{Args: []impl.InDef{{}}}}, Inputs: []impl.InDef{{}}, Values: []impl.EnumDef{{}}, Dirs: []impl.Dir{{Args: []impl.Arg{{}}}}}}
	empty := impl.Item{Kind: 3}
	value := impl.Value{Items: []impl.Value{}, Names: []string{}}
	dirs := []impl.Dir{{Args: []impl.Arg{}}}
	in := impl.InDef{Default: value, Dirs: []impl.Dir{}}
	empty.Op = impl.Op{Vars: []impl.VarDef{{Default: value, Dirs: []impl.Dir{}}}, Dirs: dirs, Sels: []impl.Sel{{Args: []impl.Arg{}, Dirs: []impl.Dir{}, Sels: []impl.Sel{}}}}
	empty.Frag = impl.Frag{Dirs: dirs, Sels: []impl.Sel{{Sels: make([]impl.Sel, 0, 2)}}}
	empty.Def = impl.Def{Faces: []string{}, Fields: []impl.FieldDef{{Args: []impl.InDef{in}, Dirs: []impl.Dir{}}}, Inputs: []impl.InDef{in}, Values: []impl.EnumDef{{Dirs: []impl.Dir{}}}, Roots: []impl.Root{}, Dirs: []impl.Dir{{Args: []impl.Arg{{Value: value}}}}}
	wantSameDoc(t, true, docOf(none), docOf(empty))
	wantSameDoc(t, true, impl.Doc{}, impl.Doc{Items: []impl.Item{}})
	wantSameDoc(t, false, impl.Doc{}, docOf(impl.Item{}))
}

func TestTheShortFormInADocument(t *testing.T) {
	short, long, def := "{\n  b\n}\n", "query {\n  b\n}\n", "scalar T\n"
	wantDoc(t, short, docOf(plainOp))
	wantDoc(t, short+"\n"+def+"\n"+def, docOf(plainOp, plainDef, plainDef))
	wantDoc(t, def+"\n"+long+"\n"+def, docOf(plainDef, plainOp, plainDef))
	wantDoc(t, def+"\n"+def+"\n"+long, docOf(plainDef, plainDef, plainOp))
	wantDoc(t, short+"\n"+long, docOf(plainOp, plainOp))
	wantDoc(t, def+"\n"+long+"\n"+long, docOf(plainDef, plainOp, plainOp))
	wantDoc(t, short+"\n"+def+"\n"+long+"\n"+long, docOf(plainOp, plainDef, plainOp, plainOp))
	// What is in the long form anyhow has its word once.
	wantDoc(t, def+"\nquery Q {\n  b\n}\n", docOf(plainDef, opItem(question(1, "Q", field("b")))))
	wantDoc(t, "query Q {\n  b\n}\n\nmutation {\n  b\n}\n\nsubscription {\n  b\n}\n\nfragment F on T {\n  b\n}\n", docOf(opItem(question(1, "Q", field("b"))), opItem(question(2, "", field("b"))), opItem(question(3, "", field("b"))), plainFrag))
	// Behind each kind of definition without lines: some would take the brace, and it stays a question all the same.
	for kind := 1; kind <= 8; kind++ {
		for _, d := range []impl.Def{least(kind), steeredDef(least(kind), oneDir...), added(steeredDef(bare(kind), oneDir...)), added(faced(bare(kind), "A"))} {
			if impl.DefOk(d) {
				wantDoc(t, impl.DefText(d)+"\n"+long, docOf(defItem(d), plainOp))
				wantDoc(t, short+"\n"+impl.DefText(d)+"\n"+long+"\n"+impl.DefText(d), docOf(plainOp, defItem(d), plainOp, defItem(d)))
			}
		}
	}
}

func TestDocumentsOfSeveralItemsComeBack(t *testing.T) {
	items := append(fullItems(), plainOp, plainFrag, plainDef, opItem(question(2, "", field("b"))), opItem(question(3, "query", field("b"))))
	for kind := 1; kind <= 8; kind++ {
		items = append(items, defItem(least(kind)))
		if kind != 7 {
			items = append(items, defItem(added(steeredDef(bare(kind), oneDir...))))
		}
	}
	for i, item := range items {
		for _, other := range items[i%3:] {
			if text := impl.ItemText(other); len(text) < 200 || i%7 == 0 {
				wantDoc(t, printOracle(docOf(item, other)), docOf(item, other))
			}
		}
		for many := 3; many <= 12; many += 3 {
			d := docOf(append(slices.Clone(items[i:]), items...)[:many]...)
			wantDoc(t, printOracle(d), d)
			pieces := docPieces(d)
			wantParsed(t, strings.Join(pieces, " "), d.Items...)
			wantParsed(t, strings.Join(pieces, allGaps[i%len(allGaps)]+"\n")+allGaps[many%len(allGaps)], d.Items...)
		}
	}
	// Of plain ones as many as may be.
	ops, defs := manyOps(), manyDefs()
	for at := 0; at < 2000; at += 100 {
		list := []impl.Item{}
		for i := range 30 {
			for _, item := range []impl.Item{opItem(ops[at+i]), defItem(defs[at*5+i*7])} {
				if len(printOracle(docOf(append(list, item)...))) > 0 {
					list = append(list, item)
				}
			}
		}
		wantDoc(t, printOracle(docOf(list...)), docOf(list...))
	}
}

// docOfLength has a question whose print is so many bytes long, with few tokens.
func docOfLength(long int) impl.Item {
	texts := slices.Repeat([]impl.Value{val(impl.VlString, strings.Repeat("é", 100))}, 40)
	told := func() impl.Item { return opItem(question(1, "", given(field("b"), arg("e", listOf(texts...))))) }
	for len(itemOracle(told())) <= long-400 {
		texts = append(texts, texts[0])
	}
	texts = append(texts, val(impl.VlString, ""), val(impl.VlString, ""))
	missing := long - len(itemOracle(told()))
	first := min(missing, 200)
	texts[len(texts)-2].Text, texts[len(texts)-1].Text = strings.Repeat("a", first), strings.Repeat("a", missing-first)
	return told()
}

func TestPrintsThatAreLong(t *testing.T) {
	for _, long := range []int{11000, 11999, 12000, 12001, 12002, 13000} {
		item := docOfLength(long)
		text := itemOracle(item)
		if len(text) != long {
			t.Fatalf("%d bytes, not %d", len(text), long)
		}
		if impl.ItemText(item) != text || !impl.DocOk(docOf(item)) {
			t.Errorf("one of %d bytes is not right", long)
		}
		if long <= 12000 {
			wantDoc(t, text, docOf(item))
		} else if got := impl.Print(docOf(item)); got != "" {
			t.Errorf("Print of %d bytes has %d", long, len(got))
		}
		if long > 12000 {
			wantNotParsed(t, text, impl.FtLong, 0)
		}
	}
	// All of it is as long as it is: what is between the items, and the word that is put ahead of one.
	for _, other := range []impl.Item{plainOp, plainDef} {
		for _, items := range [][2]int{{0, 1}, {1, 0}} {
			for by := -2; by <= 2; by++ {
				beside := len(itemOracle(other)) + 1
				if items[0] == 1 || other.Kind == impl.ItOp {
					beside += len("query ")
				}
				list := []impl.Item{docOfLength(12000 + by - beside), other}
				d := docOf(list[items[0]], list[items[1]])
				if got := impl.Print(d); (by <= 0 && len(got) != 12000+by) || (by > 0 && got != "") || !impl.DocOk(d) {
					t.Errorf("%v: Print by %d has %d bytes", items, by, len(got))
				}
				if by <= 0 {
					wantDoc(t, printOracle(d), d)
				}
			}
		}
	}
}

func docOfTokens(many int) impl.Item {
	return opItem(question(1, "", given(field("b"), arg("e", listOf(slices.Repeat([]impl.Value{handedOne}, many-9)...)))))
}

func TestPrintsOfManyTokens(t *testing.T) {
	for _, many := range []int{10, 2498, 2499, 2500, 2501, 2502, 3000} {
		item := docOfTokens(many)
		text := impl.ItemText(item)
		if text != "{\n  b(e: ["+strings.Repeat("1, ", many-10)+"1])\n}\n" || !impl.DocOk(docOf(item)) {
			t.Errorf("one of %d tokens is not right", many)
		}
		if many <= 2500 {
			wantDoc(t, text, docOf(item))
			if tokens, _ := impl.TokensOf(text); len(tokens) != many {
				t.Errorf("%d tokens, not %d", len(tokens), many)
			}
		} else if got := impl.Print(docOf(item)); got != "" {
			t.Errorf("Print of %d tokens has %d bytes", many, len(got))
		} else if _, fault := impl.Parse(text); fault.Code != impl.FtMany {
			t.Errorf("Parse of %d tokens: %v", many, fault)
		}
	}
	// The word that is put ahead is one of them.
	for by := -2; by <= 2; by++ {
		for _, d := range []impl.Doc{docOf(docOfTokens(2500+by-4), plainOp), docOf(plainDef, docOfTokens(2500+by-3)), docOf(docOfTokens(2500+by-2), plainDef)} {
			if got := impl.Print(d); (got != "") != (by <= 0) || !impl.DocOk(d) {
				t.Errorf("Print of %d tokens has %d bytes", 2500+by, len(got))
			}
			if by <= 0 {
				wantDoc(t, printOracle(d), d)
			}
		}
	}
}

func TestTextsWithoutAnyItem(t *testing.T) {
	wantRefused(t, impl.FtSyntax, "^", " ^", "   ^", ",^", "\n\t\r ,,^", "#^", "#{a}^", "# type T\n^", "#a\r#b\n,^", "\xef\xbb\xbf^", "\xef\xbb\xbf \n#^", strings.Repeat(" ", 12000)+"^")
	for _, gap := range allGaps {
		wantNotParsed(t, gap, impl.FtSyntax, len(gap))
		for _, wrong := range []string{")", "a", "1", "\"d\" {"} {
			wantParsedAsOracle(t, gap+wrong+gap)
		}
		wantNotParsed(t, gap+")"+gap, impl.FtSyntax, len(gap))
	}
	wantNotParsed(t, strings.Repeat(" ", 12001), impl.FtLong, 0)
}

func TestFaultsOfTokensInDocuments(t *testing.T) {
	// A fault of a token counts ahead of all that is wrong with where they stand.
	wantNotParsed(t, ") %", impl.FtSign, 2)
	wantNotParsed(t, "{a} 01", impl.FtNumber, 4)
	wantNotParsed(t, "type \"", impl.FtString, 5)
	wantNotParsed(t, "type \"\"\"", impl.FtString, 5)
	wantNotParsed(t, ")\xff", impl.FtText, 1)
	wantNotParsed(t, "{a} type "+tooLongName, impl.FtSign, 9)
	wantNotParsed(t, "\""+strings.Repeat("a", 201)+"\" type T", impl.FtString, 0)
	wantNotParsed(t, strings.Repeat("a ", 2501), impl.FtMany, 5000)
	wantNotParsed(t, strings.Repeat("a ", 2500), impl.FtSyntax, 0)
	wantNotParsed(t, "{a}"+strings.Repeat(" ", 11998), impl.FtLong, 0)
	wantParsed(t, "{b}"+strings.Repeat(" ", 11997), plainOp)
	for _, s := range slices.Concat(wrongTexts, wholeTexts, otherTexts) {
		wantParsedAsOracle(t, s)
		wantParsedAsOracle(t, "{a} "+s)
		wantParsedAsOracle(t, "type T {a(b: C = "+s+"): D}")
	}
}

// The first token that begins an item beyond the last one is the fault, whatever item it begins.
func TestParseOfManyItems(t *testing.T) {
	ahead := strings.Repeat("{b}", 60)
	wantParsed(t, ahead, slices.Repeat([]impl.Item{plainOp}, 60)...)
	wantParsed(t, strings.Repeat("scalar T ", 60), slices.Repeat([]impl.Item{plainDef}, 60)...)
	wantParsed(t, strings.Repeat("fragment F on T {b}", 60), slices.Repeat([]impl.Item{plainFrag}, 60)...)
	for _, behind := range []string{"{b}", "{", "query {b}", "query", "mutation", "subscription {b}", "fragment F on T {b}", "fragment", "\"d\" type T", "\"d\"", "\"\"", "\"\"\"d\"\"\" {", "extend type T @d", "extend", "scalar T", "type", "interface", "union", "enum", "input", "directive", "schema", "{}", "type type"} {
		wantRefused(t, impl.FtMany, ahead+"^"+behind, ahead+" \n^"+behind)
		wantParsedAsOracle(t, strings.Repeat("{b}", 59)+behind)
	}
	// What begins nothing else would begin a definition.
	for _, behind := range append([]string{"a", "1", "on"}, allSigns...) {
		wantRefused(t, impl.FtMany, ahead+" ^"+behind)
	}
	// What is wrong within the last one comes ahead of that.
	wantRefused(t, impl.FtSyntax, strings.Repeat("{b}", 59)+"{b^){b}", strings.Repeat("{b}", 59)+"extend type T ^type T", strings.Repeat("{b}", 59)+"schema ^type T", strings.Repeat("{b}", 59)+"extend scalar T^", strings.Repeat("{b}", 59)+"^a {b}", strings.Repeat("{b}", 58)+"type T {b^} {b} {b}")
	wantRefused(t, impl.FtMany, strings.Repeat("scalar T ", 60)+"^{b}", strings.Repeat("type T ", 59)+"type T {f: T} ^{b}")
	wantParsed(t, strings.Repeat("scalar T ", 59)+"{b}", append(slices.Repeat([]impl.Item{plainDef}, 59), plainOp)...)
}

func TestBracesBehindWhatHasNoLines(t *testing.T) {
	// What may have braces takes them.
	wantSyntax(t, `
		type T {b^}
		type T @d {b^}
		type T implements A {b^}
		interface T {b^}
		extend type T @d {b^}
		extend interface T implements A {b^}
		input T {b^}
		extend input T @d {b^}
		schema {^b}
		schema @d {^b}
		extend schema @d {^b}
	`)
	wantParsed(t, "enum T {b}", defItem(valued(bare(5), choice("", "b"))))
	wantParsed(t, "enum T @d {b}", defItem(steeredDef(valued(bare(5), choice("", "b")), oneDir...)))
	wantParsed(t, "extend enum T @d {b}", defItem(added(steeredDef(valued(bare(5), choice("", "b")), oneDir...))))
	// And a question behind these.
	wantParsed(t, "type T {f: T} {b}", defItem(fielded(bare(2), plainMember)), plainOp)
	wantParsed(t, "enum T {A} {b}", defItem(valued(bare(5), plainChoice)), plainOp)
	wantParsed(t, "input T {a: Int}{b}", defItem(fed(bare(6), plainIn)), plainOp)
	wantParsed(t, "schema {query: Q} {b}", defItem(least(8)), plainOp)
	wantParsed(t, "extend schema {query: Q} {b}", defItem(added(least(8))), plainOp)
	// What may not have braces has the question behind it at once.
	wantParsed(t, "scalar T {b}", plainDef, plainOp)
	wantParsed(t, "scalar T @d {b}", defItem(steeredDef(bare(1), oneDir...)), plainOp)
	wantParsed(t, "extend scalar T @d{b}", defItem(added(steeredDef(bare(1), oneDir...))), plainOp)
	wantParsed(t, "union T {b}", defItem(bare(4)), plainOp)
	wantParsed(t, "union T = A {b}", defItem(faced(bare(4), "A")), plainOp)
	wantParsed(t, "union T @d {b}", defItem(steeredDef(bare(4), oneDir...)), plainOp)
	wantParsed(t, "extend union T = A {b}", defItem(added(faced(bare(4), "A"))), plainOp)
	wantParsed(t, "directive @T on FIELD {b}", defItem(least(7)), plainOp)
	wantParsed(t, "type T query {b}", defItem(bare(2)), plainOp)
	wantParsed(t, "type T mutation {b}", defItem(bare(2)), opItem(question(2, "", field("b"))))
	wantParsed(t, "input T fragment F on T {b}", defItem(bare(6)), plainFrag)
	wantParsed(t, "extend schema @d query {b}", defItem(added(steeredDef(bare(8), oneDir...))), plainOp)
	wantParsed(t, "{b}{b}query{b}", plainOp, plainOp, plainOp)
}

func TestBracketsWithNothingInThem(t *testing.T) {
	wantSyntax(t, `
		{^}
		query {^}
		query Q {^}
		mutation {^}
		fragment F on T {^}
		{a {^}}
		{... {^}}
		{... on T {^}}
		{a(^)}
		{a @d(^)}
		{...F @d(^)}
		query(^) {a}
		query Q(^) {a}
		subscription(^) {a}
		query @d(^) {a}
		query($a: B @d(^)) {a}
		fragment F on T @d(^) {a}
		type T {^}
		interface T {^}
		enum T {^}
		input T {^}
		schema {^}
		type T @d {^}
		type T implements A {^}
		extend type T {^}
		extend interface T {^}
		extend enum T {^}
		extend input T {^}
		extend schema {^}
		extend type T @d {^}
		extend schema @d {^}
		extend type T implements A {^}
		type T {a(^): B}
		interface T {a(^): B}
		directive @d(^) on FIELD
		directive @d(^) repeatable on FIELD
		scalar S @d(^)
		type T @d(^)
		type T {a: B @d(^)}
		enum E {a @d(^)}
		input I {a: B @d(^)}
		schema @d(^) {query: Q}
		type T {a(b: C @d(^)): D}
		scalar S {^}
		union U {^}
		union U = A {^}
		directive @d on FIELD {^}
	`)
	// Of values alone these are some.
	wantParsed(t, "input T {a: Int = {}}", defItem(fed(bare(6), taken("", defaulted(plainVar, objectOf(""))))))
	wantParsed(t, "query($a: Int = []) {b}", opItem(filled(question(1, "", field("b")), defaulted(plainVar, listOf()))))
}

func TestSignsAheadOfTheFirstOfAList(t *testing.T) {
	a, ab, places := []string{"A"}, []string{"A", "B"}, []string{"FIELD", "ENUM"}
	for kind, word := range map[int]string{2: "type", 3: "interface"} {
		for _, s := range []string{word + " T implements A", word + " T implements & A", word + " T implements&A"} {
			wantParsed(t, s, defItem(faced(bare(kind), a...)))
			wantParsed(t, "extend "+s, defItem(added(faced(bare(kind), a...))))
			wantParsed(t, s+"&B @d {f: T}", defItem(steeredDef(fielded(faced(bare(kind), ab...), plainMember), oneDir...)))
			wantParsed(t, s+" {b: C}", defItem(fielded(faced(bare(kind), a...), member("", "b", typ("C", "")))))
		}
		wantRefused(t, impl.FtSyntax, written(`
			WORD T implements & ^& A
			WORD T implements A & ^& B
			WORD T implements A &^
			WORD T implements A & ^{b: C}
			WORD T implements A & ^@d
			WORD T implements^
			WORD T implements &^
			WORD T implements ^{b: C}
			WORD T implements ^@d
			WORD T implements ^| A
			WORD T implements A ^| B
			WORD T implements A ^B
			WORD T implements A ^implements B
			WORD T implements ^"A"
			WORD T @d ^implements A
			WORD T ^& A
			WORD T ^A
			WORD T ^= A
			extend WORD T implements^
			extend WORD T ^& A
			extend WORD T @d ^implements A
		`, "WORD", word)...)
	}
	for _, s := range []string{"union T = A", "union T = | A", "union T=|A"} {
		wantParsed(t, s, defItem(faced(bare(4), a...)))
		wantParsed(t, "extend "+s, defItem(added(faced(bare(4), a...))))
		wantParsed(t, s+"|B scalar T", defItem(faced(bare(4), ab...)), plainDef)
	}
	wantParsed(t, "union T @d = | A | B", defItem(steeredDef(faced(bare(4), ab...), oneDir...)))
	wantSyntax(t, `
		union T = | ^| A
		union T = A | ^| B
		union T = A |^
		union T = A | ^{b}
		union T =^
		union T = |^
		union T = ^{b}
		union T = ^& A
		union T = A ^& B
		union T ^| A
		union T ^A
		union T = A ^B
		union T = A ^= B
		union T = A ^@d
		union T ^implements A
		union T = ^"A"
		union T = ^1
		extend union T =^
		extend union T ^| A
		extend union T = A ^@d
	`)
	for _, s := range []string{"directive @T on FIELD", "directive @T on | FIELD", "directive@T on|FIELD"} {
		wantParsed(t, s, defItem(least(7)))
		wantParsed(t, s+"|ENUM scalar T", defItem(faced(least(7), places...)), plainDef)
	}
	wantSyntax(t, `
		directive @T on | ^| FIELD
		directive @T on FIELD | ^| ENUM
		directive @T on FIELD |^
		directive @T on FIELD | ^{b}
		directive @T on^
		directive @T on |^
		directive @T on ^{b}
		directive @T on ^& FIELD
		directive @T on FIELD ^& ENUM
		directive @T ^| FIELD
		directive @T ^FIELD
		directive @T on FIELD ^ENUM
		directive @T on ^"FIELD"
		directive @T on ^= FIELD
		directive @T ^= FIELD
	`)
}

func TestPlacesInDocuments(t *testing.T) {
	for _, place := range allPlaces {
		wantParsed(t, "directive @T on "+place, defItem(faced(bare(7), place)))
		wantParsed(t, "directive @T on FIELD|"+place, defItem(faced(bare(7), "FIELD", place)))
		wantRefused(t, impl.FtSyntax, "directive @T on ^"+strings.ToLower(place), "directive @T on ^"+place+"S", "directive @T on ^_"+place, "directive @T on ^"+place[1:], "directive @T on ENUM | ^"+strings.ToLower(place)+" | ENUM", "directive @T on "+place+" | ^"+place+place[:1], "directive @T on ^\""+place+"\"", "directive @T on ^$"+place)
		// They are names as others are.
		wantParsed(t, "type "+place+" implements "+place+"{"+place+":"+place+"}", defItem(fielded(faced(named(bare(2), place), place), member("", place, typ(place, "")))))
	}
	wantSyntax(t, `
		directive @T on ^T
		directive @T on ^on
		directive @T on ^FIELDS
		directive @T on ^repeatable on FIELD
		directive @T on FIELD | ^T
		directive @T on FIELD | ENUM | ^UNIONS
	`)
}

func TestDescriptionsInDocuments(t *testing.T) {
	told := []struct{ text, desc string }{{`"d"`, "d"}, {`"""d"""`, "d"}, {`""`, ""}, {`""""""`, ""}, {`" "`, " "}, {"\"\"\"\n    a\n      b\n  \"\"\"", "a\n  b"}, {`"\u{41}\n"`, "A\n"}, {`"""a\"""b"""`, `a"""b`}, {`"type"`, "type"}, {`"extend"`, "extend"}, {`"query"`, "query"}, {`"fragment"`, "fragment"}, {`"{"`, "{"}, {`"on"`, "on"}, {`"}"`, "}"}, {`")"`, ")"}, {"", ""}}
	for _, one := range told {
		for kind := 1; kind <= 8; kind++ {
			wantParsed(t, one.text+impl.DefText(least(kind)), defItem(described(one.desc, least(kind))))
			wantParsed(t, "{b}"+one.text+"#\n"+impl.DefText(least(kind))+one.text+"\n"+impl.DefText(least(kind)), plainOp, defItem(described(one.desc, least(kind))), defItem(described(one.desc, least(kind))))
		}
		in := taken(one.desc, plainVar)
		for kind, word := range fieldKinds {
			wantParsed(t, word+" T {"+one.text+"f:T "+one.text+" g("+one.text+"a:Int,"+one.text+" a:Int):T}", defItem(fielded(bare(kind), member(one.desc, "f", typ("T", "")), member(one.desc, "g", typ("T", ""), in, in))))
		}
		wantParsed(t, "input T {"+one.text+"a:Int "+one.text+" a:Int}", defItem(fed(bare(6), in, in)))
		wantParsed(t, "directive @T("+one.text+"a:Int "+one.text+" a:Int) on FIELD", defItem(fed(least(7), in, in)))
		wantParsed(t, "enum T {"+one.text+"A "+one.text+" B @d}", defItem(valued(bare(5), choice(one.desc, "A"), choice(one.desc, "B", oneDir...))))
		if one.text == "" {
			continue
		}
		// And where none may stand.
		for _, behind := range []string{"extend type T @d", "extend schema @d", "extend scalar T @d", "query {b}", "query Q {b}", "{b}", "mutation {b}", "subscription {b}", "fragment F on T {b}", "T", "on", `"d" type T`, `"" type T`, "1", "$a", "extend", "}"} {
			wantRefused(t, impl.FtSyntax, one.text+" ^"+behind, "{b} "+one.text+" ^"+behind)
		}
		wantRefused(t, impl.FtSyntax, written(`
			TEXT^
			type ^TEXT T
			type T {TEXT^}
			type T {TEXT ^TEXT a: B}
			type T {a(b: C TEXT^): D}
			type T {a(b: C): ^TEXT D}
			type T {a(TEXT^): D}
			type T @d(^TEXT a: 1)
			type T implements ^TEXT A
			{^TEXT a}
			{a ^TEXT}
			query ^TEXT Q {a}
			query(^TEXT $a: B) {a}
			query($a: B ^TEXT) {a}
			query($a: B) ^TEXT {a}
			schema {^TEXT query: Q}
			schema {query: ^TEXT Q}
			schema ^TEXT {query: Q}
			union U = ^TEXT A
			enum E {a TEXT^}
			extend ^TEXT type T @d
			directive ^TEXT @d on FIELD
			fragment F on T ^TEXT {a}
		`, "TEXT", one.text)...)
	}
	for _, desc := range wrongDescs {
		text := "\"" + desc + "\" type T"
		wantParsedAsOracle(t, text)
		wantParsedAsOracle(t, "\"\"\""+desc+"\"\"\" type T")
	}
}

func TestWhatIsAddedInDocuments(t *testing.T) {
	wantSyntax(t, `
		extend^
		extend ^extend type T @d
		extend ^directive @d on FIELD
		extend ^directive
		extend ^query {a}
		extend ^mutation {a}
		extend ^subscription {a}
		extend ^{a}
		extend ^fragment F on T {a}
		extend ^T
		extend ^@d
		extend ^"d" type T @d
		extend ^types T @d
		extend ^"type" T @d
		extend scalar T ^{a}
		extend scalar T ^implements A
		extend union T ^{a}
		extend union T ^implements A
		extend type T ^= A
		extend enum T ^= A
		extend input T ^(a: B)
		extend schema^
		extend schema ^type T
		extend schema ^Q @d
		extend schema ^query {a}
		extend schema ^extend schema @d
		extend schema ^= A
	`)
	for kind := 1; kind <= 6; kind++ {
		word := "extend " + defWords[kind]
		wantRefused(t, impl.FtSyntax, written(`
			WORD^
			WORD T^
			WORD T ^type T
			WORD T ^query {a}
			WORD T ^extend scalar T @d
			WORD T ^)
			WORD T ^"d" type T
			WORD T ^scalar T
			WORD ^{a}
			WORD ^@d
		`, "WORD", word)...)
		wantParsed(t, word+" T @d", defItem(added(steeredDef(bare(kind), oneDir...))))
		wantParsed(t, word+" T @d "+word+" T @d", defItem(added(steeredDef(bare(kind), oneDir...))), defItem(added(steeredDef(bare(kind), oneDir...))))
	}
	wantParsed(t, "extend schema @d", defItem(added(steeredDef(bare(8), oneDir...))))
	wantParsed(t, "extend schema {query: Q}", defItem(added(least(8))))
	wantParsed(t, "extend type extend @d", defItem(added(steeredDef(named(bare(2), "extend"), oneDir...))))
	wantParsed(t, "extend type T implements A", defItem(added(faced(bare(2), "A"))))
	wantParsed(t, "extend interface T {f: T}", defItem(added(fielded(bare(3), plainMember))))
	wantParsed(t, "extend enum T {A}", defItem(added(valued(bare(5), plainChoice))))
	wantParsed(t, "extend input T {a: Int}", defItem(added(fed(bare(6), plainIn))))
	wantParsed(t, "extend union T = A", defItem(added(faced(bare(4), "A"))))
}

func TestSchemasInDocuments(t *testing.T) {
	wantParsed(t, "schema {query: Q mutation: M, subscription: S mutation: M}", defItem(rooted(bare(8), root(1, "Q"), root(2, "M"), root(3, "S"), root(2, "M"))))
	wantParsed(t, "schema @d {subscription: S}", defItem(steeredDef(rooted(bare(8), root(3, "S")), oneDir...)))
	wantParsed(t, "schema {query: query mutation: mutation}", defItem(rooted(bare(8), root(1, "query"), root(2, "mutation"))))
	wantSyntax(t, `
		schema^
		schema @d^
		schema @d ^type T
		schema ^type T
		schema ^Q {query: Q}
		schema ^query {a}
		schema @d ^query {a}
		schema {^
		schema {^}
		schema {^a: Q}
		schema {^Query: Q}
		schema {^queries: Q}
		schema {^"query": Q}
		schema {^type: Q}
		schema {query^}
		schema {query ^Q}
		schema {query:^}
		schema {query: ^[Q]}
		schema {query: ^1}
		schema {query: Q^!}
		schema {query: Q^
		schema {query: Q ^@d}
		schema {query: Q ^b: C}
		schema {query: Q ^{a}}
		schema {query: Q ^= 1}
		schema {query: Q mutation: ^"M"}
		schema {query^(a: B): Q}
		"d" schema^
		schema ^= Q
		schema ^(
	`)
}

func TestValuesOfEnumsInDocuments(t *testing.T) {
	for _, word := range []string{"true", "false", "null"} {
		wantRefused(t, impl.FtSyntax, "enum E {^"+word+"}", "enum E {A ^"+word+"}", "enum E {^"+word+" A}", "enum E {A \"d\" ^"+word+" @d}", "extend enum E {^"+word+"}")
		wantParsed(t, "enum "+word+" {A"+word+" "+word+"_ @"+word+"}", defItem(valued(named(bare(5), word), choice("", "A"+word), choice("", word+"_", dir(word)))))
		wantParsed(t, "type "+word+" implements "+word+" {"+word+"("+word+": "+word+"): "+word+"}", defItem(fielded(faced(named(bare(2), word), word), member("", word, typ(word, ""), taken("", variable(word, typ(word, "")))))))
	}
	wantSyntax(t, `
		enum E {A^: B}
		enum E {A^(b: C)}
		enum E {A ^= 1}
		enum E {^1}
		enum E {"A"^}
		enum E {A ^| B}
		enum E {A ^{b}}
		enum E {A^
		enum E {^...A}
		enum E ^= A
	`)
	wantParsed(t, "enum E {A,B\nC@d D}", defItem(valued(named(bare(5), "E"), choice("", "A"), choice("", "B"), choice("", "C", oneDir...), choice("", "D"))))
}

func TestWhatHasToBeConst(t *testing.T) {
	wantSyntax(t, `
		query($a: B = ^$c) {d}
		query($a: B = [1 ^$c]) {d}
		query($a: B = {c: [^$d]}) {d}
		query($a: B @c(d: ^$e)) {f}
		query($a: B = 1 @c(d: [{e: ^$f}])) {g}
		type T {a(b: C = ^$d): E}
		type T {a(b: C @d(e: ^$f)): E}
		type T {a: B @c(d: ^$e)}
		type T @a(b: ^$c)
		input T {a: B = ^$c}
		input T {a: B = [[^$c]]}
		input T {a: B @c(d: ^$e)}
		directive @a(b: C = ^$d) on FIELD
		directive @a(b: C @d(e: ^$f)) on FIELD
		enum E {A @b(c: ^$d)}
		schema @a(b: ^$c) {query: Q}
		extend schema @a(b: ^$c)
		scalar S @a(b: ^$c)
		union U @a(b: ^$c)
		interface I @a(b: ^$c)
		enum E @a(b: ^$c)
		input I @a(b: ^$c)
	`)
	v := arg("e", handedVar)
	wantParsed(t, "query @d(e: $v) {b(e: $v) @d(e: [$v])}", opItem(steered(question(1, "", directed(given(field("b"), v), dir("d", arg("e", listOf(handedVar))))), dir("d", v))))
	wantParsed(t, "fragment F on T @d(e: $v) {...F @d(e: $v)}", fragItem(steeredPiece(piece("F", "T", spread("F", dir("d", v))), dir("d", v))))
	wantParsed(t, "scalar T @d(e: \"$v\")", defItem(steeredDef(bare(1), dir("d", arg("e", val(impl.VlString, "$v"))))))
	wantParsed(t, "mutation($v: Int = v @d(e: v)) {b}", opItem(filled(question(2, "", field("b")), defaulted(variable("v", typ("Int", ""), dir("d", arg("e", val(impl.VlEnum, "v")))), val(impl.VlEnum, "v")))))
}

var docWords = strings.Fields("type on query mutation subscription extend repeatable implements fragment scalar interface union enum input directive schema FIELD a")

func TestWordsThatAreNames(t *testing.T) {
	for i, word := range docWords {
		other := docWords[(i+5)%len(docWords)]
		x := typ(other, "")
		for kind := 1; kind <= 6; kind++ {
			wantParsed(t, defWords[kind]+" "+word, defItem(named(bare(kind), word)))
			wantParsed(t, "extend "+defWords[kind]+" "+word+" @"+other, defItem(added(steeredDef(named(bare(kind), word), dir(other)))))
		}
		for kind, told := range fieldKinds {
			wantParsed(t, told+" "+word+" implements "+other+" & "+word+" {"+word+"("+other+": "+word+"): "+other+" "+other+": "+word+"}", defItem(fielded(faced(named(bare(kind), word), other, word), member("", word, x, taken("", variable(other, typ(word, "")))), member("", other, typ(word, "")))))
		}
		wantParsed(t, "union "+word+" = "+other+" | "+word, defItem(faced(named(bare(4), word), other, word)))
		wantParsed(t, "enum "+word+" {"+word+" "+other+" @"+word+"}", defItem(valued(named(bare(5), word), choice("", word), choice("", other, dir(word)))))
		wantParsed(t, "input "+word+" {"+word+": "+other+" "+other+": "+word+" = "+word+"}", defItem(fed(named(bare(6), word), taken("", variable(word, x)), taken("", defaulted(variable(other, typ(word, "")), val(impl.VlEnum, word))))))
		wantParsed(t, "directive @"+word+"("+word+": "+other+") on FIELD", defItem(fed(named(least(7), word), taken("", variable(word, x)))))
		wantParsed(t, "directive @"+word+" repeatable on FIELD", defItem(repeated(named(least(7), word))))
		wantParsed(t, "schema {query: "+word+" mutation: "+word+"}", defItem(rooted(bare(8), root(1, word), root(2, word))))
		for kind := 1; kind <= 3; kind++ {
			wantParsed(t, wordKinds[kind]+" "+word+" {"+word+"}", opItem(question(kind, word, field(word))))
			wantParsed(t, wordKinds[kind]+" "+word+"($"+word+": "+other+") {"+other+": "+word+"}", opItem(filled(question(kind, word, aliased(other, field(word))), variable(word, x))))
		}
		if word == "on" {
			wantRefused(t, impl.FtSyntax, "fragment ^on on T {a}", "fragment ^on", "{...on^}", "{...on ^@d {a}}")
			continue
		}
		wantParsed(t, "fragment "+word+" on "+word+" {..."+word+"}", fragItem(piece(word, word, spread(word))))
		wantParsed(t, "fragment "+word+" on on {... on "+word+" {on}}", fragItem(piece(word, "on", inline(word, field("on")))))
		if slices.Contains([]string{"type", "query", "mutation", "subscription", "extend", "fragment", "scalar", "interface", "union", "enum", "input", "directive", "schema"}, word) {
			continue
		}
		// The others begin nothing.
		wantRefused(t, impl.FtSyntax, "^"+word, "^"+word+" {a}", "{a} ^"+word+" T", "\"d\" ^"+word+" T", "extend ^"+word+" T @d")
	}
	for _, word := range []string{"Type", "TYPE", "types", "typ", "Query", "queries", "Fragment", "fragments", "extends", "true", "null", "schemas", "QUERY"} {
		wantRefused(t, impl.FtSyntax, "^"+word, "^"+word+" T", "{a} ^"+word+" {a}", "\"d\" ^"+word+" T", "extend ^"+word+" T @d")
	}
	// A text is no word, whatever stands in it.
	wantSyntax(t, `
		"type" ^T
		"query" ^{a}
		"fragment" ^F on T {a}
		fragment F ^"on" T {a}
		directive @d ^"repeatable" on FIELD
		directive @d ^"on" FIELD
		directive @d repeatable ^"on" FIELD
		type T "implements" ^A
		{a ... ^"on" B {c}}
		schema {^"query": Q}
	`)
}

func TestRepeatableThereAndNot(t *testing.T) {
	d := fed(least(7), plainIn)
	wantParsed(t, "directive @T(a: Int) on FIELD", defItem(d))
	wantParsed(t, "directive @T(a: Int) repeatable on FIELD", defItem(repeated(d)))
	wantParsed(t, "directive @T repeatable on FIELD directive @T on FIELD", defItem(repeated(least(7))), defItem(least(7)))
	wantSyntax(t, `
		directive @T repeatable ^repeatable on FIELD
		directive @T ^Repeatable on FIELD
		directive @T repeatable^
		directive @T repeatable ^FIELD
		directive @T repeatable ^(a: Int) on FIELD
		directive @T on ^repeatable
		directive @T on FIELD ^repeatable
		directive ^repeatable @T on FIELD
		scalar T ^repeatable
		directive @T ^@d on FIELD
		directive @T on FIELD ^@d
		directive @T ^{a: Int} on FIELD
		directive @T ^implements A
		directive ^T on FIELD
		directive^
		directive @^
		directive @T^
		directive @T(a: Int)^
		directive @^1 on FIELD
		directive @T(^$a: Int) on FIELD
		directive @T(a ^Int) on FIELD
	`)
}

// Where a part of a definition stands that its kind has no place for.
func TestPartsOutOfPlace(t *testing.T) {
	wantSyntax(t, `
		scalar T ^= A
		scalar T ^implements A
		scalar T ^(a: B)
		scalar T {a: ^1}
		scalar T @d ^= A
		type T {a: B} ^@d
		type T {f: T} ^implements A
		type T ^= {
		type T ^(a: B)
		type T {f^}
		type T {f ^T}
		type T {f:^}
		type T {f: T ^= 1}
		type T {f: ^1}
		type T {^1: T}
		type T {f: T^
		type T {f(a^): T}
		type T {f(a: ^): T}
		type T {f(a: B ^: C): T}
		type T {f(a: B^
		type T {f: T! ^!}
		type T {f: [T^}
		type T {f: [^]}
		type T {^$f: T}
		type T {^...F}
		type T {^...}
		enum T {A} ^@d
		enum T ^implements A
		input T {a^(b: C): D}
		input T {a: B ^(c: D)}
		input T {a: B} ^= 1
		input T ^implements A
		input T {a: B = ^}
		input T {a: B =^
		input T {a: B = ^)}
		input T {a: ^= 1}
		input T {a: B @d ^= 1}
		union T ^(a: B)
		union T = ^{a: B}
		query Q ^Q {a}
		query Q @d(^$a: B) {a}
		query Q @d(a: $a) ^($a: B) {a}
		query @d ^Q {a}
		query ($a: B) ^Q {a}
		query Q^
		query^
		query Q($a: B)^
		query Q @d^
		query ^: {a}
		query Q ^on T {a}
		query($a ^B) {c}
		query($^: B) {c}
		query(^a: B) {c}
		query($a: ^) {c}
		query($a: B = ^) {c}
		query($a: B @d ^= 1) {c}
		query($a: B^
		query($a: B! ^!) {c}
		mutation ^= {a}
		query Q {a} ^}
		query Q {a} ^@d
		fragment^
		fragment F^
		fragment F on^
		fragment F on T^
		fragment F on T @d^
		fragment ^{a}
		fragment F ^{a}
		fragment F ^On T {a}
		fragment F on ^{a}
		fragment F ^@d on T {a}
		fragment F on T ^($a: B) {a}
		fragment F on T ^U {a}
		fragment F on T {a} ^}
		fragment ^1 on T {a}
		fragment F on ^"T" {a}
		^)
		^}
		^(
		^[
		^...
		^...F
		^@d
		^1
		^1.5
		^$a
		^: {a}
		{a} ^)
		{a} ^}
		{a} ^a
		{a} ^on
		{a^
		{^
		{a: ^}
		{a^]
	`)
}

func TestDepthsInDocuments(t *testing.T) {
	deep := func(open string, amid string, shut string, many int) string {
		return strings.Repeat(open, many) + amid + strings.Repeat(shut, many)
	}
	for _, ahead := range []string{"", "query", "query Q", "fragment F on T ", "scalar S {b} {b} mutation"} {
		wantParsedAsOracle(t, ahead+deep("{a", "", "}", 10))
		wantRefused(t, impl.FtDeep, ahead+strings.Repeat("{a", 10)+"^{a", ahead+strings.Repeat("{a", 10)+"^{a}"+strings.Repeat("}", 10), ahead+strings.Repeat("{...", 10)+"^{", ahead+strings.Repeat("{a{b}... on C", 9)+"{a ... on C^{")
		wantRefused(t, impl.FtMany, ahead+"{"+strings.Repeat("a ", 120)+"^a}", ahead+"{"+strings.Repeat("a ", 119)+"b{^...F}}", ahead+"{"+strings.Repeat("...F ", 120)+"^...", ahead+"{"+strings.Repeat("a ", 118)+"b{c ^d")
		wantParsedAsOracle(t, ahead+"{"+strings.Repeat("a ", 120)+"}")
		wantRefused(t, impl.FtSyntax, ahead+"{"+strings.Repeat("a ", 120)+"^1}", ahead+"{"+strings.Repeat("a ", 120)+"^")
	}
	// Each question and each piece is counted by itself.
	full := "{" + strings.Repeat("b ", 120) + "}"
	sels := slices.Repeat([]impl.Sel{field("b")}, 120)
	wantParsed(t, full+"query Q"+full+"fragment F on T"+full+full, opItem(question(1, "", sels...)), opItem(question(1, "Q", sels...)), fragItem(piece("F", "T", sels...)), opItem(question(1, "", sels...)))
	wantRefused(t, impl.FtMany, full+full+full[:len(full)-1]+"^b}", full+"fragment F on T"+full[:len(full)-1]+"^b}")
	ten, o := strings.Repeat("{a", 10)+strings.Repeat("}", 10), opItem(question(1, "", chain(field("a"), 10, inField)))
	wantParsed(t, ten+ten+ten, o, o, o)
	for _, ahead := range []string{"query($a: B = ", "type T {a(b: C = ", "input T {a: B = ", "directive @d(a: B = ", "scalar S @d(a: ", "{a(b: ", "query @d(a: ", "fragment F on T @d(a: ", "enum E {A @d(a: ", "schema @d(a: "} {
		wantRefused(t, impl.FtDeep, ahead+strings.Repeat("[", 10)+"^[", ahead+strings.Repeat("{a:", 10)+"^{", ahead+strings.Repeat("[{a:", 5)+"^[", ahead+"{a: [] b: "+strings.Repeat("[", 9)+"^{")
		wantRefused(t, impl.FtSyntax, ahead+strings.Repeat("[", 10)+"^)", ahead+deep("[", "", "]", 10)+"^]")
	}
	for _, ahead := range []string{"query($a: ", "type T {a(b: ", "type T {a: ", "input T {a: ", "directive @d(a: "} {
		wantRefused(t, impl.FtDeep, ahead+strings.Repeat("[", 8)+"^[", ahead+deep("[", "A!", "", 8)+strings.Repeat("]", 7)+"^]", ahead+deep("[", "A", "]", 8)+"^!", ahead+"[[[[A!]!]!]!]^!")
		wantRefused(t, impl.FtSyntax, ahead+strings.Repeat("[", 8)+"^]", ahead+deep("[", "A", "]", 8)+"^]", ahead+"[[[[A!]!]!]!^!]", ahead+"A!^!", ahead+"[A ^B]")
	}
	wantParsed(t, "input T {a: [[[[[[[[Int]]]]]]]] a: [[[[Int!]!]!]!]}", defItem(fed(bare(6), taken("", variable("a", typ("Int", "]]]]]]]]"))), taken("", variable("a", typ("Int", "!]!]!]!]"))))))
}

// Documents that have each thing that may stand in one, with each thing in a place or two.
var docSamples = []string{
	`{a}`,
	`{a: b(c: 1, d: $v) @e(f: [true, {g: "x"}]) {h ...I @j ... on K @l {m} ... @n {o} ... {p}}}`,
	`query Q($a: [Int!]! = [1, {b: E}] @c(d: 1.5), $e: F) @g(h: $a) {i}`,
	`mutation {a} subscription S @b {c} query {d} {e} query($a: B) {c}`,
	`fragment F on T @a(b: $c) {d ...G} fragment H on I {j}`,
	`"d" scalar S @a(b: 1) extend scalar S @c scalar T {x}`,
	`"d" type T implements & A & B @c {"e" f("g" h: I! = 1 @j, k: [L]): M! @n o: P}`,
	`type T extend type T implements A extend type T @b extend type T {c: D} type U query {e}`,
	`interface I implements J {a: B} extend interface I implements K & L @m {n: O}`,
	`union U @a = | B | C extend union U = D union V {a} extend union W @b`,
	`"""d""" enum E @a {"f" B @c D} extend enum E {F} enum G extend enum H @i`,
	`input I @a {"b" c: D = {e: []} @f g: [H!]} extend input I @j input K {l: M}`,
	`"d" directive @a("b" c: D = 1, e: F) repeatable on | FIELD | ENUM directive @g on QUERY {h}`,
	`schema @a {query: Q mutation: M} extend schema @b extend schema {query: T} "d" schema {subscription: U}`,
	`type type implements implements & on {on(query: extend): query} query query($on: on) {on}`,
	`fragment fragment on on {...fragment ... on on {on}} directive @repeatable repeatable on FIELD enum on {on type} extend input extend {extend: extend}`,
}

// joined has texts of tokens with something between them, now this and now that.
func joined(pieces []string, turn int) string {
	text := ""
	for i, piece := range pieces {
		text += piece + []string{" ", "\n", ",", " #}\n", "\t ", " "}[(i+turn)%6]
	}
	return text
}

func sampleTokens(s string) []string {
	tokens, _ := impl.TokensOf(s)
	pieces := []string{}
	for _, token := range tokens {
		pieces = append(pieces, impl.TokenText(token))
	}
	return pieces
}

func TestSamplesAreDocuments(t *testing.T) {
	for _, s := range docSamples {
		d, fault := impl.Parse(s)
		if pieces, wrong := parseOracle(s); fault.Code != 0 || wrong.Code != 0 || len(pieces) == 0 {
			t.Errorf("Parse(%q): %v, %v", s, fault, wrong)
		}
		wantParsedAsOracle(t, s)
		wantDoc(t, printOracle(d), d)
	}
}

func TestTextsCutOffOrWithoutATokenOrWithOneTwice(t *testing.T) {
	for turn, s := range docSamples {
		pieces := sampleTokens(s)
		for at := range pieces {
			wantParsedAsOracle(t, joined(pieces[:at], turn))
			wantParsedAsOracle(t, strings.TrimRight(joined(pieces[:at+1], 0), " \n"))
			wantParsedAsOracle(t, joined(slices.Concat(pieces[:at], pieces[at+1:]), turn))
			wantParsedAsOracle(t, joined(slices.Concat(pieces[:at+1], pieces[at:]), turn))
			wantParsedAsOracle(t, joined(pieces[at:], turn))
		}
		for at := range len(s) {
			wantParsedAsOracle(t, s[:at])
		}
	}
}

func TestTokensElsewhere(t *testing.T) {
	for turn, s := range docSamples {
		pieces := sampleTokens(s)
		for from := range pieces {
			rest := slices.Concat(pieces[:from], pieces[from+1:])
			for to := range rest {
				if by := to - from; by < 0 && by >= -4 || by > 0 && by <= 4 {
					wantParsedAsOracle(t, joined(slices.Insert(slices.Clone(rest), to, pieces[from]), turn))
				}
			}
		}
	}
}

func TestTokensPutInOrInTheirPlace(t *testing.T) {
	others := slices.Concat(allSigns, docWords, []string{"b", "true", "null", "1", "1.5", `"d"`, `""`, `"""d"""`})
	for turn, s := range docSamples {
		pieces := sampleTokens(s)
		for at := range len(pieces) + 1 {
			for _, other := range others {
				wantParsedAsOracle(t, joined(slices.Insert(slices.Clone(pieces), at, other), turn))
				if at < len(pieces) {
					changed := slices.Clone(pieces)
					changed[at] = other
					wantParsedAsOracle(t, joined(changed, turn))
				}
			}
		}
	}
}

// All texts of a few tokens behind a beginning: of those that may stand there, and of some that may not.
func TestAllShortTexts(t *testing.T) {
	for _, one := range []struct{ ahead, few string }{
		{``, `{ } a "d" "" type extend query fragment scalar @`},
		{`{a} `, `{ } a "d" extend type schema @`},
		{`{`, `} { a : ... on (`},
		{`query `, `Q ( $ a : ) { } @`},
		{`query(`, `$ a : B = 1 ) { }`},
		{`mutation Q($a: B`, `! = [ ] 1 $ @ ) {a}`},
		{`fragment `, `F on T { a } @ (`},
		{`fragment F on T `, `@ d { a } ( on`},
		{`scalar `, `S @ d ( ) { a } extend`},
		{`type T `, `implements & A @ { } f :`},
		{`type T {`, `f : A ! [ ] "d" ( ) }`},
		{`type T {f(`, `a : A = 1 ) } "d" $`},
		{`interface T implements `, `A & | @ { f : }`},
		{`extend interface T `, `implements A @ d { f : T } =`},
		{`extend `, `type T @ d { f : } schema`},
		{`union U `, `= | A @ d { } &`},
		{`extend union U `, `= | A @ d { a } (`},
		{`enum E `, `{ A true "d" @ } B :`},
		{`extend enum E `, `{ A null @ } = (`},
		{`input I `, `{ a : A = 1 } "d" @`},
		{`extend input I {`, `a : A = [ ] } "d" @`},
		{`directive `, `@ d on | FIELD repeatable ( a`},
		{`directive @d(`, `a : A = 1 ) on FIELD "d"`},
		{`directive @d `, `repeatable on | FIELD ENUM & { @`},
		{`schema `, `{ query : Q } @ d mutation`},
		{`extend schema `, `{ query : Q } @ d a`},
		{`"d" `, `"d" extend type T { query schema fragment @`},
	} {
		signs := []string{}
		for _, sign := range strings.Fields(one.few) {
			signs = append(signs, sign+" ")
		}
		eachText(signs, 5, func(s string) { wantParsedAsOracle(t, one.ahead+s) })
	}
}

func TestDocumentsDeeperThanCallsCanGo(t *testing.T) {
	defer debug.SetMaxStack(debug.SetMaxStack(256 << 10))
	ring := []impl.Sel{inline("", field("a")), field("b")}
	ring[0].Sels = ring
	round := []impl.Value{{Kind: impl.VlList}}
	round[0].Items = round
	deep := func(amid string) []impl.Item {
		value := within(val(impl.VlString, amid), 200000, inList, inObject)
		dirs := []impl.Dir{dir("d", arg("e", value))}
		in := taken("", defaulted(plainVar, value))
		sels := []impl.Sel{chain(field(amid), 200000, inField, inInline)}
		return []impl.Item{
			opItem(question(1, "", sels...)), opItem(steered(question(1, "", field("b")), dirs...)), opItem(filled(question(1, "", field("b")), defaulted(plainVar, value))), fragItem(piece("F", "T", sels...)), fragItem(steeredPiece(piece("F", "T", field("b")), dirs...)),
			defItem(steeredDef(bare(1), dirs...)), defItem(fielded(bare(2), member("", "f", typ("T", ""), in))), defItem(fielded(bare(3), steeredMember(plainMember, dirs...))), defItem(valued(bare(5), choice("", "A", dirs...))), defItem(fed(bare(6), in)),
		}
	}
	one, again, other := deep("y"), deep("y"), deep("z")
	for i := range one {
		if impl.DocOk(docOf(one[i])) || impl.Print(docOf(plainDef, one[i])) != "" || impl.ItemText(one[i]) != "" {
			t.Error("what is very deep is right")
		}
		if !impl.SameDoc(docOf(one[i]), docOf(again[i])) || impl.SameDoc(docOf(one[i]), docOf(other[i])) || impl.SameDoc(docOf(other[i]), docOf(again[i])) {
			t.Errorf("what is very deep is not as it is: %d", i)
		}
		if beside := (impl.Item{Kind: 1, Op: one[i].Op, Frag: one[i].Frag, Def: one[i].Def}); impl.DocOk(docOf(beside)) {
			t.Error("what is very deep is right")
		}
	}
	for _, item := range []impl.Item{opItem(question(1, "", ring...)), fragItem(piece("F", "T", ring...)), {Kind: 3, Def: bare(1), Op: impl.Op{Sels: ring}}, {Kind: 3, Def: bare(1), Frag: impl.Frag{Sels: ring}}, defItem(fed(bare(6), taken("", defaulted(plainVar, round[0])))), {Kind: 1, Op: plainOp.Op, Def: impl.Def{Inputs: []impl.InDef{{Default: round[0]}}}}} {
		if impl.DocOk(docOf(item)) || impl.Print(docOf(item)) != "" || impl.SameDoc(docOf(item), docOf(plainOp)) {
			t.Error("what holds itself is right")
		}
	}
	// No text is too deep for a reader.
	for _, s := range []string{strings.Repeat("{a", 1200), "{a(b: " + strings.Repeat("[", 2400), "type T {a: " + strings.Repeat("[", 2400), strings.Repeat("type T ", 1200), strings.Repeat("{", 2500), "union U = " + strings.Repeat("A | ", 1200)} {
		wantParsedAsOracle(t, s)
	}
}

func TestZeroValuesOfDocuments(t *testing.T) {
	wantWrongDoc(t, impl.Doc{})
	wantWrongDoc(t, docOf(impl.Item{}))
	wantWrongDoc(t, docOf(plainOp, impl.Item{}))
	wantWrongDoc(t, docOf(impl.Item{}, plainOp))
	wantSameDoc(t, true, impl.Doc{}, impl.Doc{})
	wantSameDoc(t, true, docOf(impl.Item{}), docOf(impl.Item{}))
	wantSameDoc(t, false, docOf(impl.Item{}), impl.Doc{})
	if impl.ItemText(impl.Item{}) != "" {
		t.Error("the zero item has a text")
	}
	for kind := 1; kind <= 3; kind++ {
		wantWrongDoc(t, docOf(impl.Item{Kind: kind}))
		wantSameDoc(t, false, docOf(impl.Item{Kind: kind}), docOf(impl.Item{}))
	}
}

// docWithRoom is the same document, with room behind its items, and behind each list in it, in which something stands already.
func docWithRoom(d impl.Doc) impl.Doc {
	items := []impl.Item{}
	for _, item := range d.Items {
		item.Op.Vars, item.Op.Dirs, item.Op.Sels = varsWithRoom(item.Op.Vars), dirsWithRoom(item.Op.Dirs), selsWithRoom(item.Op.Sels)
		item.Frag.Dirs, item.Frag.Sels = dirsWithRoom(item.Frag.Dirs), selsWithRoom(item.Frag.Sels)
		item.Def = defWithRoom(item.Def)
		items = append(items, item)
	}
	return docOf(append(items, impl.Item{Kind: 77}, plainOp)[:len(items)]...)
}

func wholeOfDoc(d impl.Doc) string {
	text := fmt.Sprint(len(d.Items))
	for _, item := range d.Items[:cap(d.Items)] {
		text += fmt.Sprintf(" <%d %s %s %s>", item.Kind, wholeOfOp(item.Op), wholeOfFrag(item.Frag), wholeOfDef(item.Def))
	}
	return text
}

func TestNothingIsWrittenIntoDocuments(t *testing.T) {
	items := append(fullItems(), plainOp, plainFrag, plainDef, impl.Item{}, impl.Item{Kind: 4})
	for i, item := range items {
		for _, d := range []impl.Doc{docOf(item), docOf(item, items[(i+1)%len(items)]), docOf(plainOp, item, plainOp), {}} {
			held, other := docWithRoom(d), docWithRoom(d)
			if item.Kind == 4 && len(d.Items) == 1 {
				held.Items[0].Op, held.Items[0].Def = docWithRoom(docOf(items[1])).Items[0].Op, docWithRoom(docOf(items[7])).Items[0].Def
			}
			ahead, otherAhead := wholeOfDoc(held), wholeOfDoc(other)
			for range 2 {
				impl.DocOk(held)
				impl.SameDoc(held, other)
				impl.Print(held)
				for _, one := range held.Items {
					impl.ItemText(one)
				}
			}
			if item.Kind != 4 {
				wantSameDoc(t, true, held, d)
			}
			if wholeOfDoc(held) != ahead || wholeOfDoc(other) != otherAhead {
				t.Errorf("%s has become %s", ahead, wholeOfDoc(held))
			}
		}
	}
}

func TestParsedDocumentsAreNewMemory(t *testing.T) {
	texts := slices.Clone(docSamples)
	for _, item := range fullItems() {
		texts = append(texts, itemOracle(item), strings.Repeat(itemOracle(item), 3))
	}
	for _, s := range texts {
		one, fault := impl.Parse(s)
		again, _ := impl.Parse(s)
		if fault.Code != 0 {
			t.Fatalf("Parse(%q): %v", s, fault)
		}
		wantApart(t, one, again)
		want := shownDoc(again)
		// What is written into an answer, and behind its lists, is in no other one.
		eachOther(reflect.ValueOf(&one).Elem(), "", func(string) {})
		for i := range one.Items {
			_ = append(one.Items[:i], impl.Item{Kind: 77})
		}
		if got := shownDoc(again); got != want {
			t.Errorf("%s has become %s", want, got)
		}
		third, _ := impl.Parse(s)
		wantSameDoc(t, true, again, third)
	}
}

func TestDocumentsKeepNothing(t *testing.T) {
	for range 3 {
		wantParsed(t, "{b}", plainOp)
		wantNotParsed(t, "{b", impl.FtSyntax, 2)
		wantNotParsed(t, strings.Repeat("{b}", 61), impl.FtMany, 180)
		wantParsed(t, strings.Repeat("{b}", 60), slices.Repeat([]impl.Item{plainOp}, 60)...)
		wantNotParsed(t, strings.Repeat("{a", 11), impl.FtDeep, 20)
		wantNotParsed(t, "{"+strings.Repeat("a ", 121)+"}", impl.FtMany, 241)
		wantParsed(t, "scalar T {b}", plainDef, plainOp)
		wantNotParsed(t, "", impl.FtSyntax, 0)
		wantNotParsed(t, "\"d\" {b}", impl.FtSyntax, 4)
		wantParsed(t, "\"d\" scalar T", defItem(described("d", bare(1))))
		wantParsed(t, "scalar T", plainDef)
		wantDoc(t, "{\n  b\n}\n\nquery {\n  b\n}\n", docOf(plainOp, plainOp))
		wantWrongDoc(t, impl.Doc{})
	}
	// What was handed in may be changed behind the call: the answer does not.
	d := docOf(opItem(question(2, "Q", field("b"))), defItem(faced(bare(4), "A")))
	text := impl.Print(d)
	d.Items[0].Op.Sels[0].Name, d.Items[1].Def.Faces[0] = "z", "Z"
	wantDoc(t, "mutation Q {\n  z\n}\n\nunion T = Z\n", d)
	if text != "mutation Q {\n  b\n}\n\nunion T = A\n" {
		t.Errorf("%q", text)
	}
}
