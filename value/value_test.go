package value

import (
	"math"
	"strconv"
	"strings"
	"testing"

	"commonbook/api"
	"commonbook/plain"
)

var least, greatest = math.MinInt, math.MaxInt

// ofNum, ofText and ofObj are values of one field beside their kind.
func ofNum(kind, num int) api.Value { return api.Value{Kind: kind, Num: num} }

func ofText(text string) api.Value { return api.Value{Kind: api.Text, Text: text} }

func ofObj(kind, num, actor int) api.Value {
	return api.Value{Kind: kind, Obj: api.Id{Num: num, Actor: actor}}
}

// shown are values, and how each is shown.
var shown = []struct {
	v    api.Value
	want string
}{
	{ofNum(api.Nil, 0), `null`},
	{ofNum(api.Truth, 0), `false`},
	{ofNum(api.Truth, 1), `true`},
	{ofNum(api.Number, 0), `0`},
	{ofNum(api.Number, 7), `7`},
	{ofNum(api.Number, -7), `-7`},
	{ofNum(api.Number, 10), `10`},
	{ofNum(api.Number, api.MaxNum+1), `1000001`},
	{ofNum(api.Number, greatest), `9223372036854775807`},
	{ofNum(api.Number, least), `-9223372036854775808`},
	{ofNum(api.Count, 0), `0`},
	{ofNum(api.Count, 1), `1`},
	{ofNum(api.Count, -12), `-12`},
	{ofNum(api.Count, greatest), `9223372036854775807`},
	{ofNum(api.Count, least), `-9223372036854775808`},
	{ofText(""), `""`},
	{ofText("abc"), `"abc"`},
	{ofText("null"), `"null"`},
	{ofText(`a"b\c`), `"a\"b\\c"`},
	{ofText("\x1f ~\x7f"), `"\1f ~\7f"`},
	{ofText(strings.Repeat("z", 60)), `"` + strings.Repeat("z", 60) + `"`},
	{ofText(strings.Repeat("\x00", 60)), `"` + strings.Repeat(`\00`, 60) + `"`},
	{ofObj(api.Map, 0, 0), `{root}`},
	{ofObj(api.Map, 12, 3), `{12@3}`},
	{ofObj(api.Map, 1_000_000, 99), `{1000000@99}`},
	{ofObj(api.List, 0, 0), `[root]`},
	{ofObj(api.List, 12, 3), `[12@3]`},
	{ofObj(api.List, 1, 1), `[1@1]`},
}

// wrong are none.
var wrong = []api.Value{
	ofNum(-1, 0), ofNum(7, 0), ofNum(100, 0), ofNum(least, 0), ofNum(greatest, 0),
	ofNum(api.Truth, 2), ofNum(api.Truth, -1), ofNum(api.Truth, least), ofNum(api.Truth, greatest),
	ofText(strings.Repeat("z", 61)), ofText(strings.Repeat("\u00e9", 31)), ofText(strings.Repeat("a", 5000)),
	ofObj(api.Map, 0, 1), ofObj(api.Map, 1, 0), ofObj(api.Map, -1, 1), ofObj(api.Map, 1, -1),
	ofObj(api.Map, 1_000_001, 1), ofObj(api.Map, 1, 100), ofObj(api.Map, least, greatest),
	ofObj(api.List, 0, 1), ofObj(api.List, 1, 0), ofObj(api.List, 1_000_001, 1), ofObj(api.List, 1, 100),
}

// TestCheck: V1, what is a value and what is none.
func TestCheck(t *testing.T) {
	for _, c := range shown {
		if err := Check(c.v); err != nil {
			t.Errorf("Check of %v: got %v", c.v, err)
		}
	}
	if err := Check(ofText(strings.Repeat("\u00e9", 30))); err != nil {
		t.Errorf("Check of a text of 30 runes in 60 bytes: got %v", err)
	}
	for _, v := range wrong {
		if got := plain.Told(Check(v)); got != api.ErrRange {
			t.Errorf("Check of %v: got %v, want ErrRange", v, got)
		}
	}
}

// TestCheckFieldsNotUsed: V1, fields that a kind does not use are 0 and empty.
func TestCheckFieldsNotUsed(t *testing.T) {
	for _, c := range shown {
		num, text, numOfObj, actorOfObj, whole := c.v, c.v, c.v, c.v, c.v
		num.Num = 1
		text.Text = "a"
		numOfObj.Obj.Num = 1
		actorOfObj.Obj.Actor = 1
		whole.Obj = api.Id{Num: 1, Actor: 1}
		usesNum := c.v.Kind == api.Truth || c.v.Kind == api.Number || c.v.Kind == api.Count
		usesObj := c.v.Kind == api.Map || c.v.Kind == api.List
		checkUse(t, num, usesNum)
		checkUse(t, text, c.v.Kind == api.Text)
		checkUse(t, whole, usesObj)
		if !usesObj {
			checkUse(t, numOfObj, false)
			checkUse(t, actorOfObj, false)
		}
	}
	for _, num := range []int{-1, 2, least, greatest} {
		checkUse(t, ofNum(api.Nil, num), false)
		checkUse(t, ofNum(api.Text, num), false)
		checkUse(t, ofNum(api.Map, num), false)
		checkUse(t, ofNum(api.List, num), false)
	}
}

func checkUse(t *testing.T, v api.Value, used bool) {
	t.Helper()
	want := api.ErrRange
	if used {
		want = api.OK
	}
	if got := plain.Told(Check(v)); got != want {
		t.Errorf("Check of %v: got %v, want %v", v, got, want)
	}
}

// TestShow: V1.
func TestShow(t *testing.T) {
	for _, c := range shown {
		if got := Show(c.v); got != c.want {
			t.Errorf("Show of %v: got %s, want %s", c.v, got, c.want)
		}
	}
}

// TestNone: P1, calls end, and none panics, at what is no value.
func TestNone(t *testing.T) {
	for _, v := range wrong {
		Show(v)
		for _, w := range wrong {
			if got := Compare(v, w); (got == 0) != (v == w) {
				t.Errorf("Compare of %v, %v: got %d", v, w, got)
			}
		}
	}
}

// quotedByte is told by number, apart from how Quote tells bytes from each other.
func quotedByte(n int) string {
	if n == 34 || n == 92 {
		return `\` + string(rune(n))
	}
	if n >= 32 && n <= 126 {
		return string(rune(n))
	}
	digits := strconv.FormatInt(int64(n), 16)
	return `\` + strings.Repeat("0", 2-len(digits)) + digits
}

// TestQuoteBytes: V2, each byte alone, and between others, there and back.
func TestQuoteBytes(t *testing.T) {
	for n := range 256 {
		for _, side := range []string{"", "a", "0", `"`, `\`, "\x00"} {
			text := side + string([]byte{byte(n)}) + side
			around := ""
			if side != "" {
				around = quotedByte(int(side[0]))
			}
			want := `"` + around + quotedByte(n) + around + `"`
			if got := Quote(text); got != want {
				t.Errorf("Quote of %q: got %s, want %s", text, got, want)
			}
			checkUnquote(t, want, text)
		}
	}
}

// checkUnquote asks for a quoted text alone, and with something behind it.
func checkUnquote(t *testing.T, quoted, want string) {
	t.Helper()
	for _, behind := range []string{"", " ", "a", `"`, `\`, `"a"`, "\x00", "\xff", quoted} {
		got, n, err := Unquote(quoted + behind)
		if got != want || n != len(quoted) || err != nil {
			t.Errorf("Unquote of %q: got %q, %d, %v, want %q, %d", quoted+behind, got, n, err, want, len(quoted))
		}
	}
}

// TestQuote: V2, texts written out.
func TestQuote(t *testing.T) {
	for _, c := range []struct{ text, want string }{
		{"", `""`},
		{" ", `" "`},
		{"abc", `"abc"`},
		{`"`, `"\""`},
		{`\`, `"\\"`},
		{`\"`, `"\\\""`},
		{`\0a`, `"\\0a"`},
		{"\n", `"\0a"`},
		{"\x00", `"\00"`},
		{"\x1f", `"\1f"`},
		{"\x20", `" "`},
		{"\x7e", `"~"`},
		{"\x7f", `"\7f"`},
		{"\x80", `"\80"`},
		{"\xff", `"\ff"`},
		{"\u00e9", `"\c3\a9"`},
		{"\n0a", `"\0a0a"`},
		{strings.Repeat("z", 61), `"` + strings.Repeat("z", 61) + `"`},
		{strings.Repeat("\x01", 5000), `"` + strings.Repeat(`\01`, 5000) + `"`},
	} {
		if got := Quote(c.text); got != c.want {
			t.Errorf("Quote of %q: got %s, want %s", c.text, got, c.want)
		}
		checkUnquote(t, c.want, c.text)
	}
}

// TestUnquoteRefuses: V2, ErrSyntax of all that does not begin just as Quote writes it; P1, with it nothing else.
func TestUnquoteRefuses(t *testing.T) {
	for _, text := range []string{
		"", " ", "a", "abc", "root", "null", `'a'`, "`a`", ` "a"`, `a"b"`, `\`, `\"`, `\"a"`, `\22a\22`, "\n", "\x00", "\xff",
		`"`, `"a`, `"abc`, `"\`, `"\"`, `"a\"`, `"\\\"`, `"\0`, `"\0a`, `"\7f`,
		`"\0"`, `"\7"`, `"\f"`, `"\n"`, `"\t"`, `"\x0a"`, `"\u00e9"`, `"\/"`, `"\ "`, `"\0 "`, `"\0g"`, `"\g0"`, `"\0/"`, `"\0:"`, "\"\\0`\"", `"\0@"`, `"\/0"`,
		`"\0A"`, `"\7F"`, `"\FF"`, `"\fF"`, `"\Ff"`, `"\C3"`,
		`"\20"`, `"\22"`, `"\30"`, `"\41"`, `"\5c"`, `"\61"`, `"\7e"`,
		"\"\n\"", "\"\x00\"", "\"\x1f\"", "\"\x7f\"", "\"\x80\"", "\"\xff\"", "\"\u00e9\"", "\"a\tb\"",
		"\"\\\n\"", "\"\\\xff\xff\"", "\"\\0\xff\"",
		`"` + strings.Repeat("a", 5000), `"` + strings.Repeat("a", 5000) + `\`,
	} {
		if got, n, err := Unquote(text); got != "" || n != 0 || plain.Told(err) != api.ErrSyntax {
			t.Errorf("Unquote of %.40q: got %.40q, %d, %v, want ErrSyntax", text, got, n, err)
		}
	}
}

// TestUnquoteIsQuote: V2, over all short texts of some bytes, Unquote takes just what Quote writes.
func TestUnquoteIsQuote(t *testing.T) {
	some := "\"\\07afFg\n"
	texts := []string{""}
	for range 5 {
		var longer []string
		for _, text := range texts {
			for i := range len(some) {
				longer = append(longer, text+some[i:i+1])
			}
		}
		texts = longer
		for _, text := range texts {
			got, n, err := Unquote(text)
			if err != nil && (got != "" || n != 0 || plain.Told(err) != api.ErrSyntax) {
				t.Fatalf("Unquote of %q: got %q, %d, %v", text, got, n, err)
			}
			if err == nil && (n > len(text) || Quote(got) != text[:n]) {
				t.Fatalf("Unquote of %q: got %q, %d, which Quote writes %s", text, got, n, Quote(got))
			}
			checkUnquote(t, Quote(text), text)
		}
	}
}

// TestCompare: V2, by Kind, then Num, then Text, then Obj, whatever the fields are.
func TestCompare(t *testing.T) {
	var rising []api.Value
	for _, kind := range []int{least, -1, 0, 1, 2, 3, 4, 5, 6, 7, greatest} {
		for _, num := range []int{least, -1, 0, 1, greatest} {
			for _, text := range []string{"", "\x00", "A", "AA", "B", "a", "\x7f", "\xc3\xa9", "\xff"} {
				for _, obj := range []api.Id{{}, {Num: 0, Actor: 1}, {Num: 1, Actor: 2}, {Num: 2, Actor: 1}} {
					rising = append(rising, api.Value{Kind: kind, Num: num, Text: text, Obj: obj})
				}
			}
		}
	}
	for i, a := range rising {
		for k, b := range rising {
			want := 0
			if i < k {
				want = -1
			}
			if i > k {
				want = 1
			}
			if got := Compare(a, b); got != want {
				t.Fatalf("Compare of %v, %v: got %d, want %d", a, b, got, want)
			}
		}
	}
}
