package tests

import (
	"bytes"
	"fmt"
	"reflect"
	"runtime/debug"
	"slices"
	"strconv"
	"strings"
	"sync"
	"testing"

	"loop.example/g00964/impl"
)

// They are made once, and nothing is written into them here.
var allDefs = sync.OnceValue(manyDefs)

func problem(code int, name string) impl.Problem { return impl.Problem{Code: code, Name: name} }

func shownDefs(list []impl.Def) string {
	text := fmt.Sprint(len(list))
	for _, d := range list {
		text += " <" + shownDef(d) + ">"
	}
	return fmt.Sprintf("%.600s", text)
}

// The chapter's words, written another way, to hold the program against. Added knows none of the lists by its name.
func addedOracle(a impl.Def, b impl.Def) impl.Def {
	whole, more := reflect.ValueOf(&a).Elem(), reflect.ValueOf(b)
	for i := range whole.NumField() {
		if list := whole.Field(i); list.Kind() == reflect.Slice {
			many := list.Len()
			list.Set(reflect.AppendSlice(list.Slice3(0, many, many), more.Field(i)))
		}
	}
	return a
}

func toldTogether(a impl.Def, b impl.Def) bool {
	if a.Kind == 8 || b.Kind == 8 {
		return a.Kind == b.Kind
	}
	return (a.Kind == 7) == (b.Kind == 7) && a.Name == b.Name
}

func joinOracle(list []impl.Def) ([]impl.Def, []impl.Problem) {
	if len(list) > 60 {
		return nil, []impl.Problem{problem(5, "")}
	}
	whole, problems := map[int]impl.Def{}, map[bool][]impl.Problem{}
	for _, ext := range []bool{false, true} {
		for i, d := range list {
			first := slices.IndexFunc(list, func(other impl.Def) bool { return !other.Ext && toldTogether(other, d) })
			switch {
			case d.Ext != ext:
			case first == i:
				whole[i] = d
			case !ext:
				problems[ext] = append(problems[ext], problem(2, d.Name))
			case first < 0:
				problems[ext] = append(problems[ext], problem(3, d.Name))
			case list[first].Kind != d.Kind:
				problems[ext] = append(problems[ext], problem(4, d.Name))
			default:
				whole[first] = addedOracle(whole[first], d)
			}
		}
	}
	defs := []impl.Def{}
	for i := range list {
		if d, there := whole[i]; there {
			defs = append(defs, d)
		}
	}
	return defs, append(problems[false], problems[true]...)
}

// sortOracle takes the first of the least ones, again and again.
func sortOracle(list []impl.Def) []impl.Def {
	left, sorted := slices.Clone(list), []impl.Def{}
	for len(left) > 0 {
		least := 0
		for i, d := range left {
			if bytes.Compare([]byte(d.Name), []byte(left[least].Name)) < 0 {
				least = i
			}
		}
		sorted = append(sorted, left[least])
		left = slices.Delete(left, least, least+1)
	}
	return sorted
}

func sameDefsOracle(a []impl.Def, b []impl.Def) bool {
	return sameOracle(reflect.ValueOf(a), reflect.ValueOf(b))
}

func wantAdded(t *testing.T, want impl.Def, a impl.Def, b impl.Def) {
	t.Helper()
	if got := impl.Added(a, b); !sameDefsOracle([]impl.Def{got}, []impl.Def{want}) {
		t.Errorf("Added(%.300s, %.300s): %.300s, want %.300s", shownDef(a), shownDef(b), shownDef(got), shownDef(want))
	}
}

func wantJoined(t *testing.T, defs []impl.Def, problems []impl.Problem, list ...impl.Def) {
	t.Helper()
	got, wrong := impl.Join(list)
	if !sameDefsOracle(got, defs) || !slices.Equal(wrong, problems) {
		t.Errorf("Join(%s): %s, %v, want %s, %v", shownDefs(list), shownDefs(got), wrong, shownDefs(defs), problems)
	}
}

func wantJoinedAsOracle(t *testing.T, list ...impl.Def) {
	t.Helper()
	defs, problems := joinOracle(list)
	wantJoined(t, defs, problems, list...)
}

func wantDefsIn(t *testing.T, defs []impl.Def, problems []impl.Problem, items ...impl.Item) {
	t.Helper()
	got, wrong := impl.DefsIn(docOf(items...))
	if !sameDefsOracle(got, defs) || !slices.Equal(wrong, problems) {
		t.Errorf("DefsIn(%.300s): %s, %v, want %s, %v", shownDoc(docOf(items...)), shownDefs(got), wrong, shownDefs(defs), problems)
	}
}

func wantSorted(t *testing.T, list ...impl.Def) {
	t.Helper()
	if got, want := impl.SortDefs(list), sortOracle(list); !sameDefsOracle(got, want) {
		t.Errorf("SortDefs(%s): %s, want %s", shownDefs(list), shownDefs(got), shownDefs(want))
	}
}

// wantReadAndJoined is for texts that are a document of definitions: joined they are these, and nothing is wrong.
func wantReadAndJoined(t *testing.T, text string, want ...impl.Def) {
	t.Helper()
	d, fault := impl.Parse(text)
	defs, others := impl.DefsIn(d)
	got, wrong := impl.Join(defs)
	if fault.Code != 0 || len(others) != 0 || len(wrong) != 0 || !sameDefsOracle(got, want) {
		t.Errorf("%.300q: %v, %v, %v, %s, want %s", text, fault, others, wrong, shownDefs(got), shownDefs(want))
	}
}

// toldIn tells definitions by a sign each: `+` for one that is added, its Kind, and its Name. Each has a face that tells its place.
func toldIn(signs string) []impl.Def {
	list := []impl.Def{}
	for i, sign := range strings.Fields(signs) {
		rest, ext := strings.CutPrefix(sign, "+")
		kind, name := rest[:1], rest[1:]
		list = append(list, impl.Def{Kind: int(kind[0] - '0'), Ext: ext, Name: name, Faces: []string{strconv.Itoa(i)}})
	}
	return list
}

// wantTold has, for what is told, the places of what is joined, and of what is added to it behind `+`, and the Code and the Name of each problem.
func wantTold(t *testing.T, signs string, joined string, problems string) {
	t.Helper()
	list, defs, wrong := toldIn(signs), []impl.Def{}, []impl.Problem{}
	for _, places := range strings.Fields(joined) {
		faces := strings.Split(places, "+")
		first, _ := strconv.Atoi(faces[0])
		defs = append(defs, faced(list[first], faces...))
	}
	for _, sign := range strings.Fields(problems) {
		wrong = append(wrong, problem(int(sign[0]-'0'), sign[1:]))
	}
	wantJoined(t, defs, wrong, list...)
	wantJoinedAsOracle(t, list...)
}

// loaded has something in each list, whatever its kind may have; what is there tells a number.
func loaded(d impl.Def, n int) impl.Def {
	name := "n" + strconv.Itoa(n)
	value := listOf(val(impl.VlInt, strconv.Itoa(n)), objectOf("x y", handedText, listOf(val(impl.VlEnum, name))))
	dirs := []impl.Dir{dir(name, arg("a", value), arg("b", handedOne)), dir("e")}
	ins := []impl.InDef{taken("how", defaulted(variable(name, typ("T", "!"), dirs...), value)), plainIn}
	d.Faces = []string{name, "A"}
	d.Fields = []impl.FieldDef{steeredMember(member("what", name, typ("T", "]"), ins...), dirs...), plainMember}
	d.Inputs = append(slices.Clone(ins), taken(name, plainVar))
	d.Values = []impl.EnumDef{choice("which", name, dirs...), plainChoice}
	d.Roots = []impl.Root{root(n, name), root(1, "Q")}
	d.Dirs = append(slices.Clone(dirs), dir(name))
	return d
}

// someLists leaves a definition the lists that have a bit, in their order, and empties the others.
func someLists(d impl.Def, bits int, room bool) impl.Def {
	v := reflect.ValueOf(&d).Elem()
	for i := range v.NumField() {
		list := v.Field(i)
		if list.Kind() != reflect.Slice {
			continue
		}
		switch {
		case bits%2 > 0:
		case room:
			list.Set(reflect.MakeSlice(list.Type(), 0, 3))
		default:
			list.SetZero()
		}
		bits /= 2
	}
	return d
}

func defsWithRoom(list []impl.Def) []impl.Def {
	held := []impl.Def{}
	for _, d := range list {
		held = append(held, defWithRoom(d))
	}
	return append(held, named(bare(77), "room"), named(bare(78), "room"))[:len(list)]
}

func wholeOfDefs(list []impl.Def) string {
	text := fmt.Sprint(len(list))
	for _, d := range list[:cap(list)] {
		text += " <" + wholeOfDef(d) + ">"
	}
	return text
}

// wantUntouched is for a call that is handed definitions: they stay as they are, with the room behind their lists, and share nothing with the answer, in which no two lists share any.
func wantUntouched(t *testing.T, list []impl.Def, ask func(held []impl.Def) any) {
	t.Helper()
	held := defsWithRoom(list)
	ahead := wholeOfDefs(held)
	one, again := ask(held), ask(held)
	wantApart(t, one, held)
	wantApart(t, again, held)
	wantApart(t, one, again)
	if got := wholeOfDefs(held); got != ahead {
		t.Errorf("%.900s has become %.900s", ahead, got)
	}
}

type joinedAnswer struct {
	Defs     []impl.Def
	Problems []impl.Problem
}

func joinAnswer(list []impl.Def) any {
	defs, problems := impl.Join(list)
	return joinedAnswer{defs, problems}
}

func TestJoinLimits(t *testing.T) {
	if got := [...]int{impl.PbItem, impl.PbTwice, impl.PbExtends, impl.PbKind, impl.PbMany, impl.MaxItems}; got != [...]int{1, 2, 3, 4, 5, 60} {
		t.Errorf("%v", got)
	}
	const none = impl.PbItem - 1
	var narrow int8 = impl.PbMany
	if none != 0 || narrow != 5 {
		t.Error("the codes are no numbers")
	}
	if (impl.Problem{Code: 2, Name: "a", Part: "b"}) == (impl.Problem{Code: 2, Name: "a"}) {
		t.Error("a problem has no Part")
	}
}

func TestAddedOfEachList(t *testing.T) {
	a, b := loaded(impl.Def{Kind: impl.DfObject, Name: "T", Desc: "d"}, 1), loaded(added(impl.Def{Kind: impl.DfObject, Name: "T"}), 2)
	for mine := range 64 {
		for theirs := range 64 {
			for turn := range 4 {
				one, other := someLists(a, mine, turn%2 > 0), someLists(b, theirs, turn/2 > 0)
				wantAdded(t, addedOracle(one, other), one, other)
			}
		}
	}
	// By name, list by list, that none is taken for another one.
	got := impl.Added(a, b)
	if len(got.Faces) != 4 || len(got.Fields) != 4 || len(got.Inputs) != 6 || len(got.Values) != 4 || len(got.Roots) != 4 || len(got.Dirs) != 6 {
		t.Errorf("%s", shownDef(got))
	}
	if got.Faces[0] != "n1" || got.Faces[2] != "n2" || got.Fields[0].Name != "n1" || got.Fields[2].Name != "n2" || got.Inputs[2].Desc != "n1" || got.Inputs[5].Desc != "n2" || got.Values[0].Name != "n1" || got.Values[2].Name != "n2" || got.Roots[0].Kind != 1 || got.Roots[2].Kind != 2 || got.Dirs[2].Name != "n1" || got.Dirs[5].Name != "n2" {
		t.Errorf("%s", shownDef(got))
	}
}

func TestAddedIsTheFirstBesideItsLists(t *testing.T) {
	kinds := append([]int{1, 2, 3, 4, 5, 6, 7, 8}, noDefKinds...)
	for i, kind := range kinds {
		for j, other := range kinds {
			for bits := range 256 {
				has := func(bit int) bool { return bits>>bit%2 > 0 }
				texts := []string{"", "é"}
				a := impl.Def{Kind: kind, Ext: has(0), Desc: texts[bits>>1%2], Name: texts[bits>>2%2], Repeat: has(3)}
				b := impl.Def{Kind: other, Ext: has(4), Desc: texts[bits>>5%2] + "x", Name: texts[bits>>6%2] + "y", Repeat: has(7)}
				if (i+j+bits)%5 == 0 {
					a, b = faced(a, "A"), faced(b, "B", "A")
				}
				got, want := impl.Added(a, b), addedOracle(a, b)
				if got.Kind != a.Kind || got.Ext != a.Ext || got.Desc != a.Desc || got.Name != a.Name || got.Repeat != a.Repeat || !sameDefsOracle([]impl.Def{got}, []impl.Def{want}) {
					t.Errorf("Added(%s, %s): %s", shownDef(a), shownDef(b), shownDef(got))
				}
			}
		}
	}
}

func defRead(t *testing.T, text string) impl.Def {
	t.Helper()
	d, fault := impl.Parse(text)
	if fault.Code != 0 || len(d.Items) != 1 || d.Items[0].Kind != impl.ItDef {
		t.Fatalf("%q is no definition: %v", text, fault)
	}
	return d.Items[0].Def
}

func TestAddedWrittenOut(t *testing.T) {
	for _, told := range [][3]string{
		{`"d" type T implements A @a {b: C}`, `extend type T implements B @b {c(d: E): F}`, "\"d\"\ntype T implements A & B @a @b {\n  b: C\n  c(d: E): F\n}\n"},
		{`type T`, `extend type T {a: B}`, "type T {\n  a: B\n}\n"},
		{`type T {a: B}`, `extend type T @c`, "type T @c {\n  a: B\n}\n"},
		{`type T {a: B}`, `extend type T {a: B}`, "type T {\n  a: B\n  a: B\n}\n"},
		{`type T {a: B}`, `"d" type U {a: C}`, "type T {\n  a: B\n  a: C\n}\n"},
		{`extend type T @a`, `type T @b`, "extend type T @a @b\n"},
		{`extend type T @a`, `extend type T implements I`, "extend type T implements I @a\n"},
		{`scalar S @a`, `extend scalar S @b(c: [1]) @d`, "scalar S @a @b(c: [1]) @d\n"},
		{`interface I {a: B}`, `extend interface I implements J`, "interface I implements J {\n  a: B\n}\n"},
		{`union U = A | B`, `extend union U @c = D`, "union U @c = A | B | D\n"},
		{`"d" enum E {A "x" B}`, `extend enum E @c {"y" D}`, "\"d\"\nenum E @c {\n  A\n  \"x\"\n  B\n  \"y\"\n  D\n}\n"},
		{`input I {a: B = 1}`, `extend input I {"d" c: D = {e: []} @f}`, "input I {\n  a: B = 1\n  \"d\" c: D = {e: []} @f\n}\n"},
		{`directive @d(a: B) on FIELD`, `"d" directive @d(c: D) repeatable on ENUM | FIELD`, "directive @d(a: B, c: D) on FIELD | ENUM | FIELD\n"},
		{`directive @d repeatable on FIELD`, `directive @e on ENUM`, "directive @d repeatable on FIELD | ENUM\n"},
		{`schema {query: Q}`, `extend schema @a {mutation: M}`, "schema @a {\n  query: Q\n  mutation: M\n}\n"},
	} {
		if got := impl.DefText(impl.Added(defRead(t, told[0]), defRead(t, told[1]))); got != told[2] {
			t.Errorf("Added(%q, %q): %q, want %q", told[0], told[1], got, told[2])
		}
	}
	// Kinds that part have their lists put together all the same.
	got := impl.Added(defRead(t, `type T {a: B}`), defRead(t, `enum E {A}`))
	if !reflect.DeepEqual([]any{got.Kind, got.Name, len(got.Fields), len(got.Values)}, []any{2, "T", 1, 1}) {
		t.Errorf("%s", shownDef(got))
	}
}

func TestAddedOfOneAndItself(t *testing.T) {
	all := []impl.Def{{}, loaded(impl.Def{}, 3), added(loaded(bare(2), 4))}
	for _, item := range fullItems() {
		all = append(all, item.Def)
	}
	for _, d := range all {
		got := impl.Added(d, d)
		wantAdded(t, addedOracle(d, d), d, d)
		wantApart(t, got, d)
		if len(got.Fields) != 2*len(d.Fields) || len(got.Dirs) != 2*len(d.Dirs) || len(got.Faces) != 2*len(d.Faces) {
			t.Errorf("%s", shownDef(got))
		}
		for _, other := range all {
			wantAdded(t, addedOracle(d, other), d, other)
			wantUntouched(t, []impl.Def{d, other}, func(held []impl.Def) any { return impl.Added(held[0], held[1]) })
			wantUntouched(t, []impl.Def{d}, func(held []impl.Def) any { return impl.Added(held[0], held[0]) })
		}
	}
}

func TestAddedInARow(t *testing.T) {
	defs := allDefs()
	for i := 0; i+2 < len(defs); i += 11 {
		a, b, c := defs[i], defs[i+1], defs[i+2]
		want := addedOracle(addedOracle(a, b), c)
		wantAdded(t, want, impl.Added(a, b), c)
		wantAdded(t, want, a, impl.Added(b, c))
		wantAdded(t, a, a, impl.Def{Kind: 77, Ext: true, Desc: "x", Name: "y", Repeat: true})
	}
}

// cut has a definition in pieces, one behind the other; the first one has what stands once.
func cut(d impl.Def, many int, turn int) []impl.Def {
	pieces := []impl.Def{{Kind: d.Kind, Ext: d.Ext, Desc: d.Desc, Name: d.Name, Repeat: d.Repeat}}
	for len(pieces) < many {
		pieces = append(pieces, impl.Def{Kind: d.Kind, Ext: true, Name: d.Name})
	}
	whole := reflect.ValueOf(d)
	for field := range whole.NumField() {
		list := whole.Field(field)
		if list.Kind() != reflect.Slice {
			continue
		}
		from := 0
		for i := range pieces {
			to := max(from, min(list.Len(), (i+1)*list.Len()/many+(turn>>i+field)%3-1))
			if i == many-1 {
				to = list.Len()
			}
			reflect.ValueOf(&pieces[i]).Elem().Field(field).Set(list.Slice3(from, to, to))
			from = to
		}
	}
	return pieces
}

// orders has the first piece at each place among the others, which stay in their order.
func orders(pieces []impl.Def) [][]impl.Def {
	lists := [][]impl.Def{}
	for i := range pieces {
		lists = append(lists, slices.Concat(pieces[1:i+1], pieces[:1], pieces[i+1:]))
	}
	return lists
}

func TestPiecesJoinedAreTheWhole(t *testing.T) {
	for i, d := range slices.Concat(allDefs(), []impl.Def{loaded(impl.Def{}, 5), loaded(bare(7), 6), loaded(bare(8), 7), loaded(bare(9), 8), loaded(bare(-2), 9)}) {
		d.Ext = false
		if i%7 != 0 && i < 11900 {
			continue
		}
		beside := impl.Def{Kind: 1 + i%6, Name: d.Name + "x", Faces: []string{"A"}}
		more := impl.Def{Kind: 1 + i%6, Name: d.Name + "x", Ext: true, Faces: []string{"B"}}
		besides := impl.Def{Kind: 1 + i%6, Name: d.Name + "x", Faces: []string{"A", "B"}}
		for many := 1; many <= 3; many++ {
			pieces := cut(d, many, i)
			for _, list := range orders(pieces) {
				wantJoined(t, []impl.Def{d}, nil, list...)
				wantJoined(t, []impl.Def{besides, d}, nil, slices.Concat([]impl.Def{beside}, list, []impl.Def{more})...)
				wantJoined(t, []impl.Def{besides, d}, nil, slices.Concat([]impl.Def{more, beside}, list)...)
				wantJoined(t, []impl.Def{d, besides}, nil, slices.Concat(list[:1], []impl.Def{more}, list[1:], []impl.Def{beside})...)
			}
		}
	}
}

func TestPiecesInTextsAreTheWhole(t *testing.T) {
	seen := map[int]int{}
	items := fullItems()
	defs := allDefs()
	for _, item := range slices.Concat(items, items, items) {
		defs = append(defs, item.Def)
	}
	for i, d := range defs {
		d.Ext = false
		if i%9 != 0 && i < 12000 || defOracle(d) == "" {
			continue
		}
		for many := 1; many <= 3; many++ {
			texts := []string{}
			for _, piece := range cut(d, many, i) {
				texts = append(texts, defOracle(piece))
			}
			if slices.Contains(texts, "") {
				continue
			}
			seen[10*d.Kind+many]++
			for at := range texts {
				told := slices.Concat(texts[1:at+1], texts[:1], texts[at+1:])
				if text := strings.Join(told, ""); len(text) <= 12000 {
					wantReadAndJoined(t, text, d)
					wantReadAndJoined(t, "scalar Beside "+text+"union Beside2", named(bare(1), "Beside"), d, named(bare(4), "Beside2"))
				}
			}
		}
	}
	for kind := 1; kind <= 8; kind++ {
		for many := 1; many <= 3; many++ {
			if seen[10*kind+many] == 0 && (kind != impl.DfDirective || many == 1) {
				t.Errorf("none of kind %d in %d pieces", kind, many)
			}
		}
	}
}

func TestJoinedPiecesWrittenOut(t *testing.T) {
	for text, want := range map[string]string{
		`extend type T {b: Int} type T {a: Int} extend type T @d extend type T implements I`:                        "type T implements I @d {\n  a: Int\n  b: Int\n}\n",
		`extend scalar S @a extend scalar S @b scalar S @c`:                                                         "scalar S @c @a @b\n",
		`extend interface I implements J extend interface I {b: C} interface I {a: B}`:                              "interface I implements J {\n  a: B\n  b: C\n}\n",
		`union U extend union U = A extend union U = B | C`:                                                         "union U = A | B | C\n",
		`extend enum E {C} "d" enum E {A B} extend enum E {D}`:                                                      "\"d\"\nenum E {\n  A\n  B\n  C\n  D\n}\n",
		`extend input I {b: C = 2} input I extend input I {a: B = 1}`:                                               "input I {\n  b: C = 2\n  a: B = 1\n}\n",
		`extend schema {mutation: M} extend schema @a schema {query: Q} extend schema {subscription: S query: R}`:   "schema @a {\n  query: Q\n  mutation: M\n  subscription: S\n  query: R\n}\n",
		`directive @T on FIELD type T extend type T @T`:                                                             "directive @T on FIELD\n, type T @T\n",
		`extend type T @a type T directive @T repeatable on FIELD`:                                                  "type T @a\n, directive @T repeatable on FIELD\n",
		`type A {x: A} extend type B {y: B} extend type A {z: A} type B extend type B {x: B} schema {query: A}`:     "type A {\n  x: A\n  z: A\n}\n, type B {\n  y: B\n  x: B\n}\n, schema {\n  query: A\n}\n",
		`extend schema @x type T schema @y {query: Q} extend type T implements I extend schema @z`:                  "type T implements I\n, schema @y @x @z {\n  query: Q\n}\n",
		`"z" scalar Z "y" type Y "x" interface X "w" union W "v" enum V "u" input U directive @t on FIELD scalar S`: "\"z\"\nscalar Z\n, \"y\"\ntype Y\n, \"x\"\ninterface X\n, \"w\"\nunion W\n, \"v\"\nenum V\n, \"u\"\ninput U\n, directive @t on FIELD\n, scalar S\n",
	} {
		d, fault := impl.Parse(text)
		defs, others := impl.DefsIn(d)
		whole, wrong := impl.Join(defs)
		texts := []string{}
		for _, one := range whole {
			texts = append(texts, impl.DefText(one))
		}
		if got := strings.Join(texts, ", "); got != want || fault.Code != 0 || len(others) != 0 || len(wrong) != 0 {
			t.Errorf("%q: %q, %v, %v, %v, want %q", text, got, fault, others, wrong, want)
		}
	}
}

func TestDefinitionsAloneStayAsTheyAre(t *testing.T) {
	defs := []impl.Def{}
	for i, d := range allDefs() {
		// Each has a Name of its own, and there is one schema.
		if d.Ext || d.Kind == impl.DfSchema && i%480 != 7 {
			continue
		}
		if d.Kind != impl.DfSchema {
			d.Name = "T" + strconv.Itoa(i)
		}
		defs = append(defs, d)
	}
	schemas := 0
	for _, list := range slices.Collect(slices.Chunk(defs, 40)) {
		if first := slices.IndexFunc(list, func(d impl.Def) bool { return d.Kind == impl.DfSchema }); first >= 0 {
			schemas++
			list = slices.DeleteFunc(slices.Clone(list), func(d impl.Def) bool {
				return d.Kind == impl.DfSchema && !sameDefsOracle([]impl.Def{d}, list[first:first+1])
			})
		}
		wantJoined(t, list, nil, list...)
		items := []impl.Item{}
		for _, d := range list {
			items = append(items, defItem(d))
		}
		wantDefsIn(t, list, nil, items...)
		if text := printOracle(docOf(items...)); text != "" {
			wantReadAndJoined(t, text, list...)
		}
	}
	if schemas < 3 {
		t.Errorf("%d lists with a schema", schemas)
	}
}

func TestJoinOfNothing(t *testing.T) {
	for _, list := range [][]impl.Def{nil, {}, make([]impl.Def, 0, 4)} {
		if defs, problems := impl.Join(list); len(defs) != 0 || len(problems) != 0 {
			t.Errorf("%v, %v", defs, problems)
		}
		if sorted := impl.SortDefs(list); len(sorted) != 0 {
			t.Errorf("%v", sorted)
		}
	}
	for _, items := range [][]impl.Item{nil, {}, make([]impl.Item, 0, 4)} {
		if defs, problems := impl.DefsIn(impl.Doc{Items: items}); len(defs) != 0 || len(problems) != 0 {
			t.Errorf("%v, %v", defs, problems)
		}
	}
}

func TestWhatIsToldTwice(t *testing.T) {
	wantTold(t, "2A 2A", "0", "2A")
	wantTold(t, "2A 2A 2A", "0", "2A 2A")
	wantTold(t, "2A 3A", "0", "2A")
	wantTold(t, "3A 2A 1A", "0", "2A 2A")
	wantTold(t, "2A 2B 2A 2B 2A", "0 1", "2A 2B 2A")
	wantTold(t, "1A 2A 3A 4A 5A 6A", "0", "2A 2A 2A 2A 2A")
	wantTold(t, "1A 2B 3C 4D 5E 6F", "0 1 2 3 4 5", "")
	// A directive and a type are told each for themselves.
	wantTold(t, "2A 7A", "0 1", "")
	wantTold(t, "7A 2A", "0 1", "")
	wantTold(t, "7A 7A", "0", "2A")
	wantTold(t, "7A 7A 7A", "0", "2A 2A")
	wantTold(t, "7A 7B", "0 1", "")
	wantTold(t, "7A 2A 7A 2A", "0 1", "2A 2A")
	wantTold(t, "1A 7A 4A 7A 6A", "0 1", "2A 2A 2A")
	// There is one schema, whatever the Names.
	wantTold(t, "8 8", "0", "2")
	wantTold(t, "8A 8A", "0", "2A")
	wantTold(t, "8A 8B", "0", "2B")
	wantTold(t, "8A 8", "0", "2")
	wantTold(t, "8 8A", "0", "2A")
	wantTold(t, "8 8A 8B 8", "0", "2A 2B 2")
	// A Name that a schema has is no other one's.
	wantTold(t, "8A 2A 7A", "0 1 2", "")
	wantTold(t, "2A 7A 8A", "0 1 2", "")
	wantTold(t, "7A 8A 2A 8B 7B 2B", "0 1 2 4 5", "2B")
	wantTold(t, "8 2 7", "0 1 2", "")
	// What is added is not told.
	wantTold(t, "+2A 2A", "1+0", "")
	wantTold(t, "+2A +2A 2A +2A", "2+0+1+3", "")
	wantTold(t, "+8 8", "1+0", "")
	wantTold(t, "+7A 7A", "1+0", "")
	// What is left out is told by its own Name, and by no other one's.
	wantTold(t, "2A 2A 2B", "0 2", "2A")
	wantTold(t, "2B 2A 2A", "0 1", "2A")
}

func TestWhatIsAddedToWhat(t *testing.T) {
	wantTold(t, "2A +2A", "0+1", "")
	wantTold(t, "2A +2A +2A", "0+1+2", "")
	wantTold(t, "2A +2B", "0", "3B")
	wantTold(t, "+2A", "", "3A")
	wantTold(t, "+2A +2A", "", "3A 3A")
	wantTold(t, "+1A +2B +3C +4D +5E +6F +7G +8H +9I +0J", "", "3A 3B 3C 3D 3E 3F 3G 3H 3I 3J")
	// It is there with another Kind.
	wantTold(t, "2A +3A", "0", "4A")
	wantTold(t, "+3A 2A", "1", "4A")
	wantTold(t, "2A +3A +2A", "0+2", "4A")
	wantTold(t, "2A +3A +2A +4A", "0+2", "4A 4A")
	// The first of several counts, not one that is left out.
	wantTold(t, "2A 3A +2A", "0+2", "2A")
	wantTold(t, "2A 3A +3A", "0", "2A 4A")
	wantTold(t, "3A 2A +2A +3A", "0+3", "2A 4A")
	wantTold(t, "2A 2A +2A", "0+2", "2A")
	wantTold(t, "+3A 2A 3A +2A", "1+3", "2A 4A")
	// To a directive directives are added alone, and to a type types.
	wantTold(t, "7A +7A", "0+1", "")
	wantTold(t, "7A +7A +7A", "0+1+2", "")
	wantTold(t, "7A +7B", "0", "3B")
	wantTold(t, "7A +2A", "0", "3A")
	wantTold(t, "2A +7A", "0", "3A")
	wantTold(t, "2A 7A +7A +2A +3A", "0+3 1+2", "4A")
	wantTold(t, "7A 2A +7A +2A", "0+2 1+3", "")
	wantTold(t, "7A 7A +7A", "0+2", "2A")
	// To the schema all schemas are, whatever the Names.
	wantTold(t, "8 +8", "0+1", "")
	wantTold(t, "8A +8A", "0+1", "")
	wantTold(t, "8A +8B", "0+1", "")
	wantTold(t, "8 +8A +8B +8", "0+1+2+3", "")
	wantTold(t, "8A 8B +8B +8A", "0+2+3", "2B")
	wantTold(t, "+8B 8A", "1+0", "")
	wantTold(t, "+8", "", "3")
	wantTold(t, "+8A 2A 7A", "1 2", "3A")
	wantTold(t, "8A +2A +7A", "0", "3A 3A")
	wantTold(t, "8 +2 +7", "0", "3 3")
	wantTold(t, "8 2 7 +7 +2 +8", "0+5 1+4 2+3", "")
}

func TestKindsThatAreNoneAreTypes(t *testing.T) {
	wantTold(t, "0A", "0", "")
	wantTold(t, "9A", "0", "")
	wantTold(t, "0A 0A", "0", "2A")
	wantTold(t, "9A 9A 9A", "0", "2A 2A")
	wantTold(t, "0A 9A 2A", "0", "2A 2A")
	wantTold(t, "2A 0A", "0", "2A")
	wantTold(t, "0A +0A +0A", "0+1+2", "")
	wantTold(t, "+9A 9A", "1+0", "")
	wantTold(t, "0A +9A +2A", "0", "4A 4A")
	wantTold(t, "2A +0A", "0", "4A")
	wantTold(t, "+0A", "", "3A")
	wantTold(t, "0A 7A 8A 9A", "0 1 2", "2A")
	wantTold(t, "0A +7A +8A", "0", "3A 3A")
	wantTold(t, "7A +0A 8A +9A", "0 2", "3A 3A")
	wantTold(t, "0 9 0", "0", "2 2")
	for i, kind := range noDefKinds {
		other := noDefKinds[(i+1)%len(noDefKinds)]
		none, piece := impl.Def{Kind: kind, Name: "A", Faces: []string{"a"}}, impl.Def{Kind: kind, Ext: true, Name: "A", Faces: []string{"b"}}
		both := faced(none, "a", "b")
		wantJoined(t, []impl.Def{none}, nil, none)
		wantJoined(t, []impl.Def{none}, []impl.Problem{problem(2, "A")}, none, none)
		wantJoined(t, []impl.Def{both}, nil, none, piece)
		wantJoined(t, []impl.Def{both}, nil, piece, none)
		wantJoined(t, []impl.Def{both}, []impl.Problem{problem(2, "A")}, none, piece, none)
		wantJoined(t, nil, []impl.Problem{problem(3, "A")}, piece)
		for _, known := range []int{1, 2, 3, 4, 5, 6, other} {
			one := impl.Def{Kind: known, Name: "A"}
			wantJoined(t, []impl.Def{one}, []impl.Problem{problem(2, "A")}, one, none)
			wantJoined(t, []impl.Def{none}, []impl.Problem{problem(2, "A")}, none, one)
			wantJoined(t, []impl.Def{one}, []impl.Problem{problem(4, "A")}, one, piece)
			wantJoined(t, []impl.Def{none}, []impl.Problem{problem(4, "A")}, added(one), none)
			wantJoined(t, []impl.Def{both}, []impl.Problem{problem(2, "A"), problem(4, "A")}, none, one, piece, added(one))
		}
		for _, apart := range []int{7, 8} {
			one := impl.Def{Kind: apart, Name: "A"}
			wantJoined(t, []impl.Def{one, none}, nil, one, none)
			wantJoined(t, []impl.Def{none, one}, nil, none, one)
			wantJoined(t, []impl.Def{one}, []impl.Problem{problem(3, "A")}, one, piece)
			wantJoined(t, []impl.Def{none}, []impl.Problem{problem(3, "A")}, none, added(one))
		}
	}
}

func TestTheOrderOfWhatIsWrong(t *testing.T) {
	wantTold(t, "+2X 2A 2A", "1", "2A 3X")
	wantTold(t, "+2X +3A 2A 2A +2Y 2A", "2", "2A 2A 3X 4A 3Y")
	wantTold(t, "+3A +2X 2A 2A", "2", "2A 4A 3X")
	wantTold(t, "2B 2A +2C 2A +3B +2D 2B +1A", "0 1", "2A 2B 3C 4B 3D 4A")
	wantTold(t, "2B 2A +1A +3B 2B 2A", "0 1", "2B 2A 4A 4B")
	wantTold(t, "+8 +7A +2A 7B 2B 2B 7B", "3 4", "2B 2B 3 3A 3A")
	wantTold(t, "8 7A 2A 8X 7A 2A", "0 1 2", "2X 2A 2A")
	wantTold(t, "2A 7A 8 2A 7A 8X", "0 1 2", "2A 2A 2X")
	wantTold(t, "+2Z +2Y +2Z +2X", "", "3Z 3Y 3Z 3X")
	wantTold(t, "2C 2B 2A +2A +2B +2C +2A", "0+5 1+4 2+3+6", "")
	for _, d := range []string{"2A 2A", "+2A", "2A +3A", "8 8", "7A 7A", "2A +7A"} {
		_, problems := impl.Join(toldIn(d))
		if len(problems) != 1 || problems[0].Part != "" {
			t.Errorf("Join of %s: %v", d, problems)
		}
	}
}

func TestJoinOfEveryShortList(t *testing.T) {
	see := func(list []impl.Def) {
		told := slices.Clone(list)
		for i := range told {
			told[i].Roots = []impl.Root{{Kind: i}}
		}
		wantJoinedAsOracle(t, told...)
	}
	signs := []impl.Def{}
	for _, kind := range []int{0, 1, 2, 7, 8, 9} {
		for _, name := range []string{"", "A", "B"} {
			d := impl.Def{Kind: kind, Name: name}
			signs = append(signs, d, added(d))
		}
	}
	eachList(signs, 3, see)
	signs = nil
	for _, kind := range []int{2, 3, 7, 8} {
		for _, name := range []string{"A", "B"} {
			d := impl.Def{Kind: kind, Name: name}
			signs = append(signs, d, added(d))
		}
	}
	eachList(signs, 4, see)
	signs = []impl.Def{bare(2), added(bare(2)), bare(4), added(bare(4)), bare(8), added(bare(8))}
	eachList(signs, 6, see)
}

func TestJoinOfLongLists(t *testing.T) {
	names := []string{"A", "B", "", "AB", "é", "a"}
	for turn := range 400 {
		list := []impl.Def{}
		for i := range 60 - turn%7 {
			step := i*(2*turn+1) + turn + i*i%5
			d := impl.Def{Kind: step%10 - turn%2, Ext: (i+turn/3)%3 > 0, Name: names[step/2%(1+turn%len(names))]}
			if i%4 > 0 {
				d = someLists(loaded(d, i), 1<<(i%6), turn%2 > 0)
			}
			list = append(list, d)
		}
		wantJoinedAsOracle(t, list...)
	}
}

func TestNamesInJoin(t *testing.T) {
	names := slices.Concat([]string{"", "A", "a", "AA", "A\x00", "\x00A", "\x00", "b", "A ", " A", longestName, longestName + "a"}, wrongName[:20], wrongTexts[:3])
	for i, name := range names {
		for _, kind := range []int{2, 7, 8} {
			one, piece := impl.Def{Kind: kind, Name: name}, impl.Def{Kind: kind, Ext: true, Name: name, Dirs: oneDir}
			wantJoined(t, []impl.Def{one}, []impl.Problem{problem(2, name)}, one, one)
			wantJoined(t, []impl.Def{steeredDef(one, oneDir...)}, nil, one, piece)
			wantJoined(t, nil, []impl.Problem{problem(3, name), problem(3, name)}, piece, piece)
			for j, other := range names {
				next := impl.Def{Kind: kind, Name: other}
				wantJoinedAsOracle(t, one, next, piece, added(next))
				switch {
				case kind == 8:
					wantJoined(t, []impl.Def{steeredDef(next, oneDir...)}, nil, next, piece)
				case name != other:
					wantJoined(t, []impl.Def{next, steeredDef(one, oneDir...)}, nil, next, one, piece)
					wantJoined(t, []impl.Def{next}, []impl.Problem{problem(3, name)}, next, piece)
				}
				if i != j && name == other {
					t.Errorf("%q is there twice", name)
				}
			}
		}
	}
}

func numbered(kind int, many int) []impl.Def {
	list := []impl.Def{}
	for i := range many {
		list = append(list, impl.Def{Kind: kind, Name: "T" + strconv.Itoa(i)})
	}
	return list
}

func TestJoinOfManyDefinitions(t *testing.T) {
	many := []impl.Problem{{Code: impl.PbMany}}
	for kind := range 10 {
		list := numbered(kind, 300)
		if kind != impl.DfSchema {
			wantJoined(t, list[:60], nil, list[:60]...)
			wantJoined(t, list[:59], nil, list[:59]...)
		}
		pieces := []impl.Def{}
		for _, d := range list {
			pieces = append(pieces, added(d))
		}
		none := []impl.Problem{}
		for _, d := range pieces[:60] {
			none = append(none, problem(3, d.Name))
		}
		wantJoined(t, nil, none, pieces[:60]...)
		wantJoinedAsOracle(t, slices.Concat(list[:30], pieces[:30])...)
		for _, told := range [][]impl.Def{
			list[:61], list[:62], list[:100], list[:120], list, pieces[:61], pieces, slices.Concat(list[:30], pieces[:31]), slices.Concat(list[:1], pieces[:60]), slices.Concat(pieces[:60], list[:1]), slices.Repeat(list[:1], 61), slices.Repeat(pieces[:1], 61),
			slices.Concat(list[:60], list[:1]), slices.Concat(list[:60], pieces[100:101]), slices.Repeat([]impl.Def{{}}, 61), slices.Repeat([]impl.Def{{}}, 5000),
		} {
			wantJoined(t, nil, many, told...)
			wantUntouched(t, told[:61], joinAnswer)
		}
		twice := slices.Repeat(list[:1], 60)
		wrong := slices.Repeat([]impl.Problem{problem(2, "T0")}, 59)
		wantJoined(t, list[:1], wrong, twice...)
	}
	// One definition and 59 that are added to it, behind it, ahead of it and amid.
	piece := steeredDef(added(bare(2)), oneDir...)
	whole := steeredDef(bare(2), slices.Repeat(oneDir, 59)...)
	for _, at := range []int{0, 1, 30, 58, 59} {
		wantJoined(t, []impl.Def{whole}, nil, slices.Insert(slices.Repeat([]impl.Def{piece}, 59), at, bare(2))...)
	}
	for at := range 61 {
		wantJoined(t, nil, many, slices.Insert(slices.Repeat([]impl.Def{piece}, 60), at, bare(2))...)
	}
}

func TestDefsInMixedDocuments(t *testing.T) {
	op, frag, def := opItem(question(2, "Q", field("b"))), fragItem(piece("F", "T", field("b"))), defItem(bare(3))
	asked, piece := problem(1, "Q"), problem(1, "F")
	wantDefsIn(t, nil, []impl.Problem{asked}, op)
	wantDefsIn(t, nil, []impl.Problem{piece}, frag)
	wantDefsIn(t, []impl.Def{bare(3)}, nil, def)
	wantDefsIn(t, nil, []impl.Problem{problem(1, "")}, plainOp)
	wantDefsIn(t, nil, []impl.Problem{asked, piece, asked}, op, frag, op)
	wantDefsIn(t, []impl.Def{bare(3)}, []impl.Problem{piece, asked}, frag, def, op)
	wantDefsIn(t, []impl.Def{bare(3), bare(1), bare(3)}, []impl.Problem{asked, problem(1, "")}, def, op, plainDef, plainOp, def)
	// The problem tells the Name, and nothing else of what is asked.
	wantDefsIn(t, nil, []impl.Problem{problem(1, "F"), problem(1, "M")}, fragItem(steeredPiece(impl.Frag{Name: "F", On: "Q"}, oneDir...)), opItem(steered(question(2, "M", field("b")), oneDir...)))
	signs := []impl.Item{op, frag, def, plainOp, defItem(added(bare(7))), {}, {Kind: 4}}
	eachList(signs, 4, func(list []impl.Item) {
		defs, problems := []impl.Def{}, []impl.Problem{}
		for _, item := range list {
			switch names := map[int]string{1: item.Op.Name, 2: item.Frag.Name}; {
			case item.Kind == 3:
				defs = append(defs, item.Def)
			default:
				problems = append(problems, problem(1, names[item.Kind]))
			}
		}
		wantDefsIn(t, defs, problems, list...)
	})
	d, fault := impl.Parse(`query Q {a} type T {a: B} {b} fragment F on T {c} extend type U @d subscription S {d} "x" directive @e on FIELD`)
	defs, problems := impl.DefsIn(d)
	texts := []string{}
	for _, one := range defs {
		texts = append(texts, impl.DefText(one))
	}
	if fault.Code != 0 || strings.Join(texts, ", ") != "type T {\n  a: B\n}\n, extend type U @d\n, \"x\"\ndirective @e on FIELD\n" || !slices.Equal(problems, []impl.Problem{problem(1, "Q"), problem(1, ""), problem(1, "F"), problem(1, "S")}) {
		t.Errorf("%v, %q, %v", fault, texts, problems)
	}
}

func TestDefsInAnyDocument(t *testing.T) {
	defs, items := []impl.Def{}, []impl.Item{}
	for _, item := range fullItems() {
		if item.Kind == impl.ItDef {
			defs, items = append(defs, item.Def), append(items, item)
		}
	}
	wantDefsIn(t, defs, nil, items...)
	// Neither how many there are counts, nor whether they are right, nor whether they are told twice.
	for _, many := range []int{59, 60, 61, 62, 600} {
		list := numbered(2, many)
		all, asked, wrong := []impl.Item{}, []impl.Item{}, []impl.Problem{}
		for i, d := range list {
			all = append(all, defItem(d))
			asked = append(asked, []impl.Item{opItem(question(i%4, d.Name)), fragItem(piece(d.Name, ""))}[i%2])
			wrong = append(wrong, problem(1, d.Name))
		}
		wantDefsIn(t, list, nil, all...)
		wantDefsIn(t, nil, wrong, asked...)
		wantDefsIn(t, list, wrong, slices.Concat(asked, all)...)
		wantDefsIn(t, slices.Repeat(list[:1], many), nil, slices.Repeat(all[:1], many)...)
	}
	for _, d := range []impl.Def{{}, {Kind: 9}, {Kind: -1, Name: "1"}, loaded(impl.Def{}, 1), loaded(added(impl.Def{Kind: 2, Name: "\xff", Desc: "d", Repeat: true}), 2), named(bare(8), "S"), added(bare(7)), added(bare(1))} {
		wantDefsIn(t, []impl.Def{d}, nil, defItem(d))
		wantDefsIn(t, []impl.Def{d, bare(1), d}, []impl.Problem{problem(1, "")}, defItem(d), impl.Item{}, plainDef, defItem(d))
	}
	// Of an item the one of its Kind counts: of one of no kind nothing does.
	whole := impl.Item{Op: question(1, "Q", field("a")), Frag: piece("F", "T", field("a")), Def: loaded(bare(2), 7)}
	for _, kind := range append([]int{0, 1, 2, 3, 4}, noKinds...) {
		whole.Kind = kind
		switch kind {
		case 1:
			wantDefsIn(t, nil, []impl.Problem{problem(1, "Q")}, whole)
		case 2:
			wantDefsIn(t, nil, []impl.Problem{problem(1, "F")}, whole)
		case 3:
			wantDefsIn(t, []impl.Def{whole.Def}, nil, whole)
		default:
			wantDefsIn(t, []impl.Def{bare(1)}, []impl.Problem{problem(1, "")}, whole, plainDef)
			wantDefsIn(t, nil, []impl.Problem{problem(1, "")}, impl.Item{Kind: kind})
		}
	}
	for _, name := range []string{"", "a", "1", "\xff", "on", "é", "a b", longestName + "a"} {
		wantDefsIn(t, nil, []impl.Problem{problem(1, name), problem(1, name)}, opItem(impl.Op{Name: name}), fragItem(impl.Frag{Name: name}))
	}
}

func TestSortDefsInEveryOrder(t *testing.T) {
	for _, names := range [][]string{{"", "a", "B", "ab", "a\x00", "\xff", "é"}, {"A", "AA", "AB", "B", "a", "_", "0"}} {
		eachList(names, 4, func(order []string) {
			list := []impl.Def{}
			for i, name := range order {
				list = append(list, impl.Def{Name: name, Kind: len(order) - i})
			}
			wantSorted(t, list...)
		})
	}
	sorted := []string{"", "\x00", "\x00a", "\n", " ", "0", "10", "9", "A", "A\x00", "A\x00B", "AA", "AB", "Aa", "B", "Z", "Zz", "_", "__Type", "_a", "a", "a\x00", "a0", "aA", "a_", "aa", "aaa", "ab", "b", "z", "\x7f", "\x80", "\xc3", "é", "éa", "€", "\xed\xa0\x80", "😀", "\xff", "\xff\xff"}
	for step := range 160 {
		list, want := make([]impl.Def, len(sorted)), []impl.Def{}
		for i, name := range sorted {
			// The steps are prime to the number of names.
			place := (i*[]int{1, 3, 7, 9, 11, 13, 17, 19, 21, 23, 27, 29, 31, 33, 37, 39}[step%16] + step) % len(sorted)
			list[place] = impl.Def{Name: name, Kind: place}
			want = append(want, list[place])
		}
		if got := impl.SortDefs(list); !sameDefsOracle(got, want) {
			t.Errorf("%s", shownDefs(got))
		}
	}
}

func TestThoseOfOneNameStayInTheirOrder(t *testing.T) {
	a, b := loaded(described("z", named(bare(2), "A")), 1), added(named(bare(1), "A"))
	wantSorted(t, a, b)
	wantSorted(t, b, a)
	wantSorted(t, named(b, "B"), b, a, named(a, ""), b)
	names := []string{"A", "B", "C", "", "AB", "a"}
	for turn := range 60 {
		for _, many := range []int{1, 2, 12, 13, 20, 21, 40, 60, 61, 200, 1000} {
			list := []impl.Def{}
			for i := range many {
				step := i*(turn+1) + i*i%7
				d := impl.Def{Kind: (many - i) % 11, Ext: step%2 > 0, Desc: strconv.Itoa((many - i) * 7 % 10), Name: names[step%(1+turn%len(names))], Repeat: i%3 > 0, Roots: []impl.Root{{Kind: i}}}
				list = append(list, faced(d, strconv.Itoa(many-i)))
			}
			if many == 1000 && turn%20 > 0 {
				continue
			}
			wantSorted(t, list...)
			wantSorted(t, impl.SortDefs(list)...)
		}
	}
	// Names in falling order, and some in rising order already.
	list := numbered(1, 100)
	wantSorted(t, list...)
	slices.Reverse(list)
	wantSorted(t, list...)
}

func TestSortDefsOfOneAndOfWhatIsNotRight(t *testing.T) {
	for _, d := range []impl.Def{{}, {Kind: 9}, {Kind: -1, Name: "1"}, loaded(impl.Def{}, 1), loaded(added(impl.Def{Kind: 2, Name: "\xff", Desc: "d", Repeat: true}), 2), added(bare(7))} {
		wantSorted(t, d)
		wantSorted(t, d, d)
		wantSorted(t, bare(2), d, bare(3), d)
	}
	for _, item := range fullItems() {
		wantSorted(t, named(item.Def, "b"), item.Def, named(item.Def, "a"))
	}
	for i, list := range slices.Collect(slices.Chunk(allDefs(), 50)) {
		if i%4 == 0 {
			wantSorted(t, list...)
		}
	}
}

func TestZeroValuesInJoin(t *testing.T) {
	zero := impl.Def{}
	wantAdded(t, zero, zero, zero)
	wantAdded(t, loaded(zero, 1), loaded(zero, 1), zero)
	wantAdded(t, loaded(zero, 1), zero, loaded(impl.Def{Kind: 2, Name: "T"}, 1))
	wantJoined(t, []impl.Def{zero}, nil, zero)
	wantJoined(t, []impl.Def{zero}, []impl.Problem{problem(2, "")}, zero, zero)
	wantJoined(t, []impl.Def{zero}, nil, zero, added(zero))
	wantJoined(t, nil, []impl.Problem{problem(3, "")}, added(zero))
	wantJoined(t, []impl.Def{zero}, []impl.Problem{problem(3, "T"), problem(4, "")}, zero, added(bare(2)), impl.Def{Kind: 2, Ext: true})
	wantDefsIn(t, nil, nil)
	wantDefsIn(t, nil, []impl.Problem{problem(1, "")}, impl.Item{})
	wantDefsIn(t, []impl.Def{zero}, nil, impl.Item{Kind: impl.ItDef})
	wantSorted(t)
	wantSorted(t, zero)
	wantSorted(t, bare(1), zero, zero)
}

func docAnswer(kinds ...int) func([]impl.Def) any {
	return func(list []impl.Def) any {
		items := []impl.Item{}
		for i, d := range list {
			items = append(items, impl.Item{Kind: kinds[i%len(kinds)], Def: d})
		}
		defs, problems := impl.DefsIn(docOf(items...))
		return joinedAnswer{defs, problems}
	}
}

func TestNothingIsWrittenIntoWhatIsJoined(t *testing.T) {
	a, b, c := loaded(bare(2), 1), loaded(added(bare(2)), 2), loaded(named(bare(7), "A"), 3)
	lists := [][]impl.Def{nil, {{}}, {{}, added(impl.Def{})}, {a}, {a, b}, {b, a}, {b, a, b}, {a, a}, {a, b, b, b, c, added(c)}, {b, b}, {a, added(bare(3)), c}, {c, added(bare(3)), b, a, added(c)}}
	for bits := range 64 {
		lists = append(lists, []impl.Def{someLists(a, bits, true), someLists(b, 63-bits, false), someLists(b, bits/3, true)}, []impl.Def{someLists(b, bits*5%64, false), someLists(a, bits, false), b})
	}
	all := []impl.Def{}
	for _, item := range fullItems() {
		if item.Kind == impl.ItDef {
			all = append(all, item.Def)
		}
	}
	lists = append(lists, all, slices.Concat(all, all[:3]))
	for _, list := range lists {
		wantUntouched(t, list, joinAnswer)
		wantUntouched(t, list, func(held []impl.Def) any { return impl.SortDefs(held) })
		wantUntouched(t, list, docAnswer(3))
		wantUntouched(t, list, docAnswer(3, 1, 2, 3, 0))
		if len(list) > 1 {
			wantUntouched(t, list, func(held []impl.Def) any { return impl.Added(held[0], held[1]) })
		}
	}
}

func TestNothingIsWrittenIntoADocumentOfPieces(t *testing.T) {
	items := append(fullItems(), plainOp, plainFrag, impl.Item{}, impl.Item{Kind: 4, Def: loaded(bare(2), 1)})
	for i := range items {
		held := docWithRoom(docOf(items[i], items[(i+1)%len(items)], items[(i+5)%len(items)]))
		ahead := wholeOfDoc(held)
		defs, problems := impl.DefsIn(held)
		more, wrong := impl.DefsIn(held)
		wantApart(t, joinedAnswer{defs, problems}, held)
		wantApart(t, joinedAnswer{more, wrong}, joinedAnswer{defs, problems})
		for j := range defs {
			defs[j] = impl.Def{}
		}
		_, _ = append(defs, bare(1), bare(2)), append(problems, impl.Problem{}, impl.Problem{})
		if got := wholeOfDoc(held); got != ahead {
			t.Errorf("%s has become %s", ahead, got)
		}
	}
}

// The same piece twice has its lists twice in what is handed in, and never in an answer.
func TestTheSamePieceTwiceIsTwoPieces(t *testing.T) {
	whole := loaded(bare(2), 1)
	piece := added(loaded(bare(2), 1))
	for bits := range 64 {
		some := someLists(piece, bits, bits%2 > 0)
		for _, list := range [][]impl.Def{{whole, some, some}, {some, whole, some}, {some, some, someLists(whole, 63-bits, false), some, some}, {bare(2), some, some, some}, {named(whole, "U"), whole, some, added(named(whole, "U")), some}, {whole, named(whole, "B"), named(whole, "C")}} {
			wantJoinedAsOracle(t, list...)
			wantApart(t, joinAnswer(list), list)
			wantSorted(t, list...)
			wantApart(t, impl.SortDefs(list), list)
			wantApart(t, docAnswer(3)(list), list)
		}
		wantApart(t, impl.Added(some, some), some)
		wantApart(t, impl.Added(whole, some), []impl.Def{whole, some})
	}
	// Within one definition, too: its fields and inputs may be one list, and its own directives those of a field.
	shared := impl.Def{Kind: 2, Name: "T", Inputs: whole.Inputs, Fields: []impl.FieldDef{member("", "a", typ("T", ""), whole.Inputs...), steeredMember(member("", "b", typ("T", ""), whole.Inputs...), whole.Dirs...)}, Dirs: whole.Dirs, Values: []impl.EnumDef{choice("", "A", whole.Dirs...), choice("", "B", whole.Dirs...)}}
	wantApart(t, impl.Added(shared, shared), shared)
	wantApart(t, joinAnswer([]impl.Def{shared, added(shared)}), shared)
	wantApart(t, impl.SortDefs([]impl.Def{shared, shared}), shared)
	wantApart(t, docAnswer(3)([]impl.Def{shared, shared}), shared)
	wantAdded(t, addedOracle(shared, shared), shared, shared)
}

// What is handed in may be changed behind the call, and the answer too: neither changes the other one.
func TestJoinedDefinitionsAreNewMemory(t *testing.T) {
	fresh := func() []impl.Def {
		list := []impl.Def{loaded(bare(2), 1), loaded(added(bare(2)), 2), named(loaded(bare(5), 3), "E"), loaded(named(bare(7), "A"), 4)}
		return defsWithRoom(list)
	}
	for _, ask := range []func([]impl.Def) any{joinAnswer, docAnswer(3), func(list []impl.Def) any { return impl.SortDefs(list) }, func(list []impl.Def) any { return impl.Added(list[0], list[1]) }} {
		want := reflect.ValueOf(ask(fresh()))
		list := fresh()
		got, other := ask(list), ask(list)
		overwriteAll(reflect.ValueOf(list))
		if !sameOracle(reflect.ValueOf(got), want) {
			t.Errorf("%v, want %v", got, want)
		}
		held := reflect.New(want.Type()).Elem()
		held.Set(reflect.ValueOf(got))
		overwriteAll(held)
		if !sameOracle(reflect.ValueOf(other), want) {
			t.Errorf("%v, want %v", other, want)
		}
	}
}

// overwriteAll writes something else into each list, and into the room behind it, from the inmost ones on.
func overwriteAll(v reflect.Value) {
	switch v.Kind() {
	case reflect.Slice:
		for i := range v.Len() {
			overwriteAll(v.Index(i))
		}
		for i := range v.Cap() {
			v.Slice(0, v.Cap()).Index(i).Set(otherThan(v.Type().Elem()))
		}
	case reflect.Struct:
		for i := range v.NumField() {
			overwriteAll(v.Field(i))
		}
	}
}

func otherThan(x reflect.Type) reflect.Value {
	v := reflect.New(x).Elem()
	switch x.Kind() {
	case reflect.String:
		v.SetString("overwritten")
	case reflect.Struct:
		for i := range v.NumField() {
			switch v.Field(i).Kind() {
			case reflect.String:
				v.Field(i).SetString("overwritten")
			case reflect.Int:
				v.Field(i).SetInt(77)
			}
		}
	}
	return v
}

func TestJoinedDefinitionsDeeperThanCallsCanGo(t *testing.T) {
	defer debug.SetMaxStack(debug.SetMaxStack(256 << 10))
	deep := func(amid string) impl.Def {
		value := within(val(impl.VlString, amid), 100000, inList, inObject)
		dirs := []impl.Dir{dir("d", arg("e", value))}
		in := taken("", defaulted(variable("a", typ("T", ""), dirs...), value))
		d := fielded(bare(2), steeredMember(member("", "f", typ("T", ""), in), dirs...))
		return steeredDef(valued(fed(d, in), choice("", "A", dirs...)), dirs...)
	}
	one, again, other := deep("y"), deep("y"), deep("z")
	same := func(a impl.Def, b impl.Def) bool { return impl.SameDoc(docOf(defItem(a)), docOf(defItem(b))) }
	joined, problems := impl.Join([]impl.Def{added(one), named(one, "U")})
	in, _ := impl.DefsIn(docOf(defItem(one)))
	sorted := impl.SortDefs([]impl.Def{named(one, "U"), one})
	for _, got := range []impl.Def{named(joined[0], "T"), in[0], sorted[0], named(sorted[1], "T"), impl.Added(one, impl.Def{}), steeredDef(impl.Added(bare(2), one), again.Dirs...)} {
		if !same(got, again) || same(got, other) {
			t.Error("what is very deep is not as it was")
		}
		if &got.Dirs[0] == &one.Dirs[0] || &got.Fields[0].Args[0].Default.Items[0] == &one.Fields[0].Args[0].Default.Items[0] {
			t.Error("what is very deep is in memory of another one")
		}
		mine, theirs := got.Inputs[0].Default, one.Inputs[0].Default
		for len(mine.Items) > 0 {
			if &mine.Items[0] == &theirs.Items[0] {
				t.Fatal("what is very deep is in memory of another one")
			}
			mine, theirs = mine.Items[0], theirs.Items[0]
		}
	}
	if !slices.Equal(problems, []impl.Problem{problem(3, "T")}) {
		t.Errorf("%v", problems)
	}
}

func TestJoiningKeepsNothing(t *testing.T) {
	piece := steeredDef(added(bare(2)), oneDir...)
	for range 3 {
		wantJoined(t, nil, []impl.Problem{problem(3, "T")}, piece)
		wantJoined(t, []impl.Def{bare(2)}, nil, bare(2))
		wantJoined(t, []impl.Def{steeredDef(bare(2), oneDir...)}, nil, piece, bare(2))
		wantJoined(t, []impl.Def{bare(3)}, []impl.Problem{problem(4, "T")}, piece, bare(3))
		wantJoined(t, nil, []impl.Problem{problem(5, "")}, numbered(2, 61)...)
		wantJoined(t, []impl.Def{bare(2)}, []impl.Problem{problem(2, "T")}, bare(2), bare(3))
		wantAdded(t, steeredDef(bare(2), oneDir...), bare(2), piece)
		wantAdded(t, bare(2), bare(2), bare(2))
		wantSorted(t, named(bare(2), "b"), named(bare(2), "a"))
		wantDefsIn(t, []impl.Def{bare(1)}, []impl.Problem{problem(1, "")}, plainOp, plainDef)
		wantDefsIn(t, nil, nil)
	}
}
