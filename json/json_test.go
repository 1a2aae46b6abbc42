package json

import (
	"fmt"
	"math"
	"slices"
	"strings"
	"testing"

	"commonbook/api"
	"commonbook/doc"
	"commonbook/plain"
)

var (
	null = api.Tree{}
	no   = api.Tree{Value: api.Value{Kind: api.Truth}}
	yes  = api.Tree{Value: api.Value{Kind: api.Truth, Num: 1}}
)

func num(n int) api.Tree { return api.Tree{Value: api.Value{Kind: api.Number, Num: n}} }

func text(s string) api.Tree { return api.Tree{Value: api.Value{Kind: api.Text, Text: s}} }

func list(kids ...api.Tree) api.Tree {
	return api.Tree{Value: api.Value{Kind: api.List}, Kids: kids}
}

// mapOf has keys, with one blank between, and of each a kid.
func mapOf(keys string, kids ...api.Tree) api.Tree {
	return keyed(strings.Fields(keys), kids...)
}

func keyed(keys []string, kids ...api.Tree) api.Tree {
	return api.Tree{Value: api.Value{Kind: api.Map}, Keys: keys, Kids: kids}
}

// nest has so many lists, each in the one ahead, and the last one has kids.
func nest(many int, kids ...api.Tree) api.Tree {
	t := list(kids...)
	for range many - 1 {
		t = list(t)
	}
	return t
}

// row has so many trees in it, itself among them.
func row(many int) api.Tree { return list(make([]api.Tree, many-1)...) }

// doubled has 2^n - 1 trees in it, by two that stand behind one list each.
func doubled(n int) api.Tree {
	t := list()
	for range n - 1 {
		t = list(t, t)
	}
	return t
}

// endless has itself in it.
func endless() api.Tree {
	kids := make([]api.Tree, 1)
	kids[0] = list(kids...)
	return kids[0]
}

// same tells whether trees are alike, an empty list and nil being the same.
func same(a, b api.Tree) bool {
	return a.Value == b.Value && slices.Equal(a.Keys, b.Keys) && slices.EqualFunc(a.Kids, b.Kids, same)
}

func wantTold(t testing.TB, what string, err error, want api.Errno) {
	t.Helper()
	if got := plain.Told(err); got != want {
		t.Errorf("%s: got %v, want %v", what, got, want)
	}
}

// tree is that of a text that is one.
func tree(t testing.TB, s string) api.Tree {
	t.Helper()
	x, at, err := Parse(s)
	if at != 0 || err != nil {
		t.Fatalf("Parse of %q: got %d, %v", s, at, err)
	}
	return x
}

var (
	longKey  = strings.Repeat("k", 20)
	longText = strings.Repeat("\x00", 60)
)

// right are trees, and how each is printed.
var right = []struct {
	t    api.Tree
	text string
}{
	{null, `null`},
	{no, `false`},
	{yes, `true`},
	{num(0), `0`},
	{num(7), `7`},
	{num(-7), `-7`},
	{num(-10), `-10`},
	{num(math.MaxInt), `9223372036854775807`},
	{num(math.MinInt), `-9223372036854775808`},
	{text(""), `""`},
	{text("null"), `"null"`},
	{text("a,b:[{"), `"a,b:[{"`},
	{text(`a"b\c`), `"a\"b\\c"`},
	{text("\x00\n\x1f ~\x7f\x80\xff"), `"\00\0a\1f ~\7f\80\ff"`},
	{text("\u00e9"), `"\c3\a9"`},
	{text(longText), `"` + strings.Repeat(`\00`, 60) + `"`},
	{list(), `[]`},
	{mapOf(""), `{}`},
	{list(null), `[null]`},
	{list(num(1), num(1), num(0)), `[1,1,0]`},
	{list(null, no, yes, num(-1), text("x"), list(), mapOf("")), `[null,false,true,-1,"x",[],{}]`},
	{mapOf("a", num(1)), `{"a":1}`},
	{mapOf("A B a aa ab b", null, no, yes, num(2), text("y"), list()), `{"A":null,"B":false,"a":true,"aa":2,"ab":"y","b":[]}`},
	{keyed([]string{"\x00", "\n", " ", `"`, `\`, "\x7f", "\xc3\xa9", "\xff"}, num(1), num(2), num(3), num(4), num(5), num(6), num(7), num(8)),
		`{"\00":1,"\0a":2," ":3,"\"":4,"\\":5,"\7f":6,"\c3\a9":7,"\ff":8}`},
	{keyed([]string{longKey}, null), `{"` + longKey + `":null}`},
	{mapOf("a b", mapOf("a b", list(mapOf("c", num(1))), null), mapOf("")), `{"a":{"a":[{"c":1}],"b":null},"b":{}}`},
	{list(list(list()), list(list(num(1)), num(2)), num(3)), `[[[]],[[1],2],3]`},
	{nest(5), `[[[[[]]]]]`},
	{doubled(3), `[[[],[]],[[],[]]]`},
}

// noValues are values that no tree has.
var noValues = []api.Value{
	{Kind: -1}, {Kind: 7}, {Kind: math.MinInt}, {Kind: math.MaxInt},
	{Kind: api.Count}, {Kind: api.Count, Num: 5}, {Kind: api.Count, Num: -1},
	{Kind: api.Map, Obj: api.Id{Num: 1, Actor: 1}}, {Kind: api.List, Obj: api.Id{Num: 1_000_000, Actor: 99}},
	{Kind: api.Map, Obj: api.Id{Num: 1}}, {Kind: api.List, Obj: api.Id{Actor: 1}}, {Kind: api.List, Obj: api.Id{Num: -1, Actor: -1}},
	{Kind: api.Nil, Num: 1}, {Kind: api.Nil, Text: "a"}, {Kind: api.Nil, Obj: api.Id{Num: 1, Actor: 1}},
	{Kind: api.Truth, Num: 2}, {Kind: api.Truth, Num: -1}, {Kind: api.Truth, Text: "a"},
	{Kind: api.Number, Text: "a"}, {Kind: api.Number, Obj: api.Id{Num: 1, Actor: 1}},
	{Kind: api.Text, Num: 1}, {Kind: api.Text, Text: longText + "a"}, {Kind: api.Text, Text: strings.Repeat("a", 5000)},
	{Kind: api.Map, Num: 1}, {Kind: api.Map, Text: "a"}, {Kind: api.List, Num: 1}, {Kind: api.List, Text: "a"},
}

// wrong are trees that are none, but for those of noValues.
var wrong = map[string]api.Tree{
	"a Nil with Kids":       {Kids: []api.Tree{null}},
	"a Nil with Keys":       {Keys: []string{"a"}},
	"a Truth with both":     {Value: yes.Value, Keys: []string{"a"}, Kids: []api.Tree{null}},
	"a Number with Kids":    {Value: num(1).Value, Kids: []api.Tree{null}},
	"a Text with Kids":      {Value: text("a").Value, Kids: []api.Tree{null}},
	"a Text with Keys":      {Value: text("a").Value, Keys: []string{"a"}},
	"a List with Keys":      {Value: list().Value, Keys: []string{"a"}, Kids: []api.Tree{null}},
	"a List with a Key":     {Value: list().Value, Keys: []string{"a"}},
	"a Key more":            mapOf("a b", null),
	"a Key and no Kid":      mapOf("a"),
	"a Kid more":            mapOf("a", null, null),
	"a Kid and no Key":      mapOf("", null),
	"an empty key":          keyed([]string{""}, null),
	"an empty key ahead":    keyed([]string{"", "a"}, null, null),
	"an empty key behind":   keyed([]string{"a", ""}, null, null),
	"a long key":            keyed([]string{longKey + "k"}, null),
	"a long key behind":     keyed([]string{"a", longKey + "k"}, null, null),
	"a long key of runes":   keyed([]string{strings.Repeat("\u00e9", 11)}, null),
	"equal keys":            mapOf("a a", null, null),
	"equal keys behind":     mapOf("a b b", null, null, null),
	"falling keys":          mapOf("b a", null, null),
	"falling keys behind":   mapOf("a c b", null, null, null),
	"falling by length":     mapOf("aa a", null, null),
	"falling by case":       mapOf("a B", null, null),
	"falling by high bytes": keyed([]string{"\xff", "z"}, null, null),
}

// allWrong gives trees with ErrRange: such as are none, and such as have one in them.
func allWrong() map[string]api.Tree {
	all := map[string]api.Tree{}
	add := func(what string, x api.Tree) {
		all[what] = x
		all[what+", in a list"] = list(num(1), x, num(2))
		all[what+", in a map"] = mapOf("a b", num(1), x)
		all[what+", deep within"] = mapOf("a b", list(list(), mapOf("a b", null, list(x))), null)
	}
	for what, x := range wrong {
		add(what, x)
	}
	for _, v := range noValues {
		add(fmt.Sprintf("%+v", v), api.Tree{Value: v})
	}
	return all
}

// J1: Check of all that is a tree.
func TestCheck(t *testing.T) {
	for _, x := range right {
		wantTold(t, x.text, Check(x.t), api.OK)
	}
	wantTold(t, "keys of MaxKey bytes, by runes", Check(keyed([]string{strings.Repeat("\u00e9", 10)}, null)), api.OK)
	wantTold(t, "no Keys that are not nil", Check(api.Tree{Keys: []string{}, Kids: []api.Tree{}}), api.OK)
}

// J1: Check and Print of what is none; P1: with an error nothing else is answered.
func TestCheckRange(t *testing.T) {
	for what, x := range allWrong() {
		wantRefused(t, what, x, api.ErrRange)
	}
}

// wantRefused asks each call with a tree for its error.
func wantRefused(t *testing.T, what string, x api.Tree, want api.Errno) {
	t.Helper()
	wantTold(t, "Check of "+what, Check(x), want)
	s, err := Print(x)
	if wantTold(t, "Print of "+what, err, want); s != "" {
		t.Errorf("Print of %s: got %s", what, s)
	}
	for _, path := range [][]api.Step{nil, {{Key: "a"}}, {{At: -1}}} {
		got, err := Get(x, path)
		if wantTold(t, "Get of "+what, err, want); !same(got, null) {
			t.Errorf("Get of %s: got %v", what, got)
		}
	}
	for _, p := range [][]api.Patch{nil, {{}}, {{Kind: api.PatchSet, Path: []api.Step{{Key: "a"}}}}} {
		got, err := Apply(x, p)
		if wantTold(t, "Apply of "+what, err, want); !same(got, null) {
			t.Errorf("Apply of %s: got %v", what, got)
		}
	}
	for _, v := range []api.Value{{}, {Kind: -1}, list().Value} {
		got, err := Paths(x, v)
		if wantTold(t, "Paths of "+what, err, want); len(got) != 0 {
			t.Errorf("Paths of %s: got %v", what, got)
		}
	}
}

// J1: a tree has up to MaxList trees in it, itself among them; with more ErrFull is told, whatever else is wrong.
func TestCheckFull(t *testing.T) {
	for what, x := range map[string]api.Tree{
		"a row":                 row(400),
		"a nest":                nest(400),
		"a row in a nest":       nest(200, make([]api.Tree, 200)...),
		"a list at many places": list(slices.Repeat([]api.Tree{list(make([]api.Tree, 20)...)}, 19)...),
		"doubled":               doubled(8),
	} {
		wantTold(t, what, Check(x), api.OK)
	}
	bad := api.Tree{Value: api.Value{Kind: api.Count}}
	kids := make([]api.Tree, 400)
	for what, x := range map[string]api.Tree{
		"a row":                            row(401),
		"a long row":                       row(100_000),
		"a nest":                           nest(401),
		"a row in a nest":                  nest(201, make([]api.Tree, 200)...),
		"a list at many places":            list(slices.Repeat([]api.Tree{list(make([]api.Tree, 20)...)}, 20)...),
		"one that stands there 2^8 times":  doubled(9),
		"one that stands there 2^62 times": doubled(63),
		"one with itself in it":            endless(),
		"also if one is none":              list(append(kids, bad)...),
		"also if the first is none":        list(append([]api.Tree{bad}, kids...)...),
		"also of a Count":                  {Value: bad.Value, Kids: kids},
		"also of a Nil":                    {Kids: kids},
		"also of a map without Keys":       mapOf("", kids...),
		"also behind a wrong key":          mapOf("b a", list(kids...), null),
	} {
		wantRefused(t, what, x, api.ErrFull)
	}
	wantRefused(t, "as many as may be, of which one is none", list(append(kids[:398:398], bad)...), api.ErrRange)
	wantRefused(t, "as many Kids as may be, of a Nil", api.Tree{Kids: kids[:399]}, api.ErrRange)
}

// J1: Print writes each tree as the chapter says.
func TestPrint(t *testing.T) {
	for _, x := range right {
		if got, err := Print(x.t); got != x.text || err != nil {
			t.Errorf("Print of %v: got %s, %v, want %s", x.t, got, err, x.text)
		}
	}
	got, err := Print(row(400))
	if want := "[" + strings.Repeat("null,", 398) + "null]"; got != want || err != nil {
		t.Errorf("Print of a row: got %s, %v", got, err)
	}
	got, err = Print(nest(400))
	if want := strings.Repeat("[", 400) + strings.Repeat("]", 400); got != want || err != nil {
		t.Errorf("Print of a nest: got %s, %v", got, err)
	}
}

// J1: what is longer than Parse takes is printed, too.
func TestPrintLong(t *testing.T) {
	x := list()
	for range 399 {
		x.Kids = append(x.Kids, text(longText))
	}
	got, err := Print(x)
	want := "[" + strings.TrimSuffix(strings.Repeat(`"`+strings.Repeat(`\00`, 60)+`",`, 399), ",") + "]"
	if got != want || err != nil {
		t.Errorf("Print: got %d bytes, %v, want %d", len(got), err, len(want))
	}
	wantParse(t, got, 0, api.ErrFull)
}

// J1: each byte, alone in a text and in a key, is printed as chapter 7 has it, and read again.
func TestBytes(t *testing.T) {
	for n := range 256 {
		s := string([]byte{byte(n)})
		d, err := doc.New(1)
		if err != nil {
			t.Fatal(err)
		}
		if err := d.Put(api.Id{}, s, text(s).Value); err != nil {
			t.Fatal(err)
		}
		got, err := Print(keyed([]string{s}, text(s)))
		if got != d.Text() || err != nil {
			t.Errorf("Print of byte %d: got %s, %v, want %s", n, got, err, d.Text())
		}
		if x := tree(t, got); !same(x, keyed([]string{s}, text(s))) {
			t.Errorf("Parse of %s: got %v", got, x)
		}
	}
}

// J1: Print writes what chapter 7's Text does of a book with the same in it, and Parse takes it; Counts are Numbers there.
func TestPrintIsText(t *testing.T) {
	d, err := doc.New(1)
	if err != nil {
		t.Fatal(err)
	}
	must := func(err error) {
		t.Helper()
		if err != nil {
			t.Fatal(err)
		}
	}
	l, err := d.Make(api.Id{}, "l", api.List)
	must(err)
	m, err := d.InsertNew(l, 0, api.Map)
	must(err)
	must(d.Insert(l, 1, null.Value))
	must(d.Insert(l, 2, yes.Value))
	must(d.Insert(l, 3, no.Value))
	must(d.Put(m, "c", api.Value{Kind: api.Count, Num: 5}))
	must(d.Add(m, "c", -7))
	must(d.Put(m, "b\n", text("\"\xff").Value))
	_, err = d.Make(api.Id{}, "E", api.Map)
	must(err)
	want := mapOf("E l", mapOf(""), list(keyed([]string{"b\n", "c"}, text("\"\xff"), num(-2)), null, yes, no))
	if got, err := Print(want); got != d.Text() || err != nil {
		t.Errorf("Print: got %s, %v, want %s", got, err, d.Text())
	}
	if got := tree(t, d.Text()); !same(got, want) {
		t.Errorf("Parse of %s: got %v, want %v", d.Text(), got, want)
	}
}
