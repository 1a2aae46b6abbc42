package json

import (
	"math/big"
	"regexp"
	"strconv"
	"strings"
	"testing"

	"commonbook/api"
	"commonbook/plain"
)

// wantParse asks for a place and an error, and that nothing else is answered.
func wantParse(t testing.TB, s string, at int, want api.Errno) {
	t.Helper()
	x, got, err := Parse(s)
	if got != at || plain.Told(err) != want || err != nil && !same(x, null) {
		t.Errorf("Parse of %.200q: got %d, %v, and a tree of %d kids, want %d, %v", s, got, err, len(x.Kids), at, want)
	}
}

// J1: Parse undoes Print.
func TestParse(t *testing.T) {
	for _, x := range right {
		if got := tree(t, x.text); !same(got, x.t) {
			t.Errorf("Parse of %s: got %v, want %v", x.text, got, x.t)
		}
	}
}

// J1: the place where a text is wrong.
func TestParseSyntax(t *testing.T) {
	for _, x := range []struct {
		text string
		at   int
	}{
		// Where a tree would have to begin.
		{"", 0}, {" ", 0}, {"x", 0}, {"N", 0}, {"]", 0}, {"}", 0}, {",", 0}, {":", 0}, {"+1", 0}, {".5", 0}, {"'a'", 0}, {"\\", 0}, {"\x00", 0}, {"\xff", 0},
		{"[", 1}, {"[x", 1}, {"[,", 1}, {"[}", 1}, {"[:", 1}, {"[1,", 3}, {"[1,]", 3}, {"[1,,2]", 3}, {"[1,}", 3}, {"[[", 2}, {"[[],", 4}, {"[\x00]", 1},
		{`{"a":`, 5}, {`{"a":}`, 5}, {`{"a":,`, 5}, {`{"a":x}`, 5}, {`{"a"::1}`, 5},
		// Behind a tree.
		{"nullx", 4}, {"nullnull", 4}, {"null ", 4}, {"truefalse", 4}, {"falsex", 5}, {"null\n", 4}, {"null\x00", 4},
		{"1 ", 1}, {"1x", 1}, {"1.5", 1}, {"1e5", 1}, {"1,", 1}, {"1+1", 1}, {"0x1", 1}, {"-5 ", 2}, {"1]", 1}, {"1[", 1},
		{`"a"b`, 3}, {`"a""b"`, 3}, {`"\""""`, 4}, {"[]]", 2}, {"[] ", 2}, {"{}}", 2}, {"[][]", 2}, {"{}null", 2}, {"[]\n", 2},
		{"[1", 2}, {"[1 ]", 2}, {"[1}", 2}, {"[1:2]", 2}, {"[1[2]]", 2}, {"[null", 5}, {"[nullx", 5}, {`["a"`, 4}, {`["a""b"]`, 4}, {"[[1]", 4}, {"[[1]2]", 4}, {"[{}", 3},
		{`{"a":1`, 6}, {`{"a":1]`, 6}, {`{"a":1 }`, 6}, {`{"a":1:2}`, 6}, {`{"a":1"b":2}`, 6}, {`{"a":[]`, 7}, {`{"a":{}`, 7}, {`{"a":{}]`, 7},
		// Where a key would have to begin.
		{"{", 1}, {"{]", 1}, {"{ }", 1}, {"{1:2}", 1}, {"{a:1}", 1}, {"{null:1}", 1}, {"{,", 1}, {"{:", 1}, {"{{}:1}", 1}, {"{'a':1}", 1},
		{`{"a":1,`, 7}, {`{"a":1,}`, 7}, {`{"a":1, "b":2}`, 7}, {`{"a":1,b:2}`, 7}, {`{"a":1,,`, 7}, {`{"a":1,2}`, 7},
		// Keys that are none, or do not rise.
		{`{""`, 1}, {`{"":1}`, 1}, {`{"a":1,"":2}`, 7}, {`{"a`, 1}, {`{"a:1}`, 1}, {`{"`, 1}, {`{"a":1,"b`, 7}, {`{"\`, 1}, {`{"\61":1}`, 1}, {"{\"\n\":1}", 1},
		{`{"a":1,"a":2}`, 7}, {`{"b":1,"a":2}`, 7}, {`{"b":1,"a"`, 7}, {`{"b":1,"ab":2}`, 7}, {`{"b":1,"B":2}`, 7}, {`{"bb":1,"b":2}`, 8}, {`{"a":1,"c":2,"b"x`, 13},
		{`{"\ff":1,"z":2}`, 9}, {`{"z":1,"\0a":2}`, 7}, {`{"a":1,"b":{"b":1,"a":2}}`, 18}, {`[{"a":1},{"a":1,"a":1}]`, 16},
		{`{"` + longKey + `k":1}`, 1}, {`{"` + longKey + `k"`, 1}, {`{"a":1,"` + longKey + `k":1}`, 7}, {`{"` + strings.Repeat(`\00`, 21) + `":1}`, 1},
		{`{"a"`, 4}, {`{"a" :1}`, 4}, {`{"a"}`, 4}, {`{"a"]`, 4}, {`{"a",`, 4}, {`{"a"1}`, 4}, {`{"a""b":1}`, 4},
		// Numbers.
		{"-", 0}, {"--", 0}, {"-0", 0}, {"00", 0}, {"01", 0}, {"-01", 0}, {"-00", 0}, {"007", 0}, {"1-", 0}, {"1-2", 0}, {"--1", 0}, {"0-", 0}, {"-1-", 0}, {"12-34", 0}, {"-x", 0}, {"- 1", 0},
		{"9223372036854775808", 0}, {"-9223372036854775809", 0}, {"10000000000000000000", 0}, {"18446744073709551616", 0}, {"18446744073709551617", 0}, {"09223372036854775807", 0},
		{strings.Repeat("9", 5000), 0}, {strings.Repeat("0", 5000), 0}, {strings.Repeat("-", 5000), 0},
		{"[-", 1}, {"[-]", 1}, {"[1,01]", 3}, {"[1,-0]", 3}, {"[1,2-", 3}, {"[0,9223372036854775808", 3}, {`{"a":00}`, 5}, {`{"a":-}`, 5}, {"[1,1-x", 3},
		// Words.
		{"n", 0}, {"nul", 0}, {"nulx", 0}, {"nul null", 0}, {"t", 0}, {"tru", 0}, {"trux", 0}, {"f", 0}, {"fals", 0}, {"falsy", 0}, {"Null", 0}, {"TRUE", 0}, {"nULL", 0}, {"nil", 0},
		{"[nul", 1}, {"[nul]", 1}, {"[null,tru", 6}, {"[null,fals,1]", 6}, {`{"a":nul}`, 5}, {`{"a":n`, 5},
		// Texts.
		{`"`, 0}, {`"a`, 0}, {`"\`, 0}, {`"\"`, 0}, {`"\0`, 0}, {`"\0a`, 0}, {`"\0"`, 0}, {`"\n"`, 0}, {`"\u0041"`, 0}, {`"\/"`, 0}, {`"\41"`, 0}, {`"\20"`, 0}, {`"\22"`, 0}, {`"\5c"`, 0}, {`"\0A"`, 0}, {`"\FF"`, 0}, {`"\7e"`, 0},
		{"\"\n\"", 0}, {"\"\x00\"", 0}, {"\"\x7f\"", 0}, {"\"\xff\"", 0}, {"\"\u00e9\"", 0}, {"\"a\x00", 0},
		{`"` + strings.Repeat("z", 61) + `"`, 0}, {`"` + strings.Repeat(`\00`, 61) + `"`, 0}, {`"` + strings.Repeat("z", 5000), 0},
		{`["a`, 1}, {`["a]`, 1}, {`["a","b`, 5}, {`["a","\x"]`, 5}, {`["a","` + strings.Repeat("z", 61) + `"]`, 5}, {`{"a":"b`, 5}, {`{"a":"b}`, 5}, {`{"a":"\`, 5},
	} {
		wantParse(t, x.text, x.at, api.ErrSyntax)
		if at, want := judged(x.text); at != x.at || want != api.ErrSyntax {
			t.Errorf("%.200q is judged %d, %v, want %d", x.text, at, want, x.at)
		}
	}
}

// J1: numbers up to 2^63 - 1, and down to -2^63, are trees, alone and among others.
func TestParseNumbers(t *testing.T) {
	for _, n := range []int{0, 1, 9, 10, -1, -9, -10, 1 << 62, 1<<63 - 1, 1<<63 - 2, -1 << 63, -1<<63 + 1} {
		s := strconv.Itoa(n)
		if got := tree(t, "["+s+`,{"a":`+s+"}]"); !same(got, list(num(n), mapOf("a", num(n)))) {
			t.Errorf("Parse of %s twice: got %v", s, got)
		}
	}
}

// J1: texts of up to MaxBytes bytes.
func TestParseBytes(t *testing.T) {
	x := list()
	for range 300 {
		x.Kids = append(x.Kids, text(longText))
	}
	for range 80 {
		x.Kids = append(x.Kids, text(strings.Repeat("z", 60)))
	}
	x.Kids = append(x.Kids, text(strings.Repeat("z", 56)))
	s, err := Print(x)
	if len(s) != 60_000 || err != nil {
		t.Fatalf("Print: got %d bytes, %v", len(s), err)
	}
	if got := tree(t, s); !same(got, x) {
		t.Error("Parse of MaxBytes bytes: got another tree")
	}
	x.Kids[380] = text(strings.Repeat("z", 57))
	s, err = Print(x)
	if len(s) != 60_001 || err != nil {
		t.Fatalf("Print: got %d bytes, %v", len(s), err)
	}
	wantParse(t, s, 0, api.ErrFull)
	wantParse(t, "null"+strings.Repeat(" ", 59_996), 4, api.ErrSyntax)
	wantParse(t, "null"+strings.Repeat(" ", 59_997), 0, api.ErrFull)
	wantParse(t, strings.Repeat("[", 60_000), 400, api.ErrFull)
	wantParse(t, strings.Repeat("[", 60_001), 0, api.ErrFull)
	wantParse(t, `"`+strings.Repeat("a", 59_999), 0, api.ErrSyntax)
	wantParse(t, strings.Repeat("x", 1_000_000), 0, api.ErrFull)
}

// J1: where a tree would have to begin behind MaxList others, ErrFull is told, whatever stands there, or the end.
func TestParseFull(t *testing.T) {
	open := func(n int) string { return strings.Repeat("[", n) }
	row := "[" + strings.Repeat("0,", 399)
	deep := strings.Repeat(`{"a":`, 400)
	whatever := []string{"", "0", "null", "nul", "x", `"`, `""`, "-", "00", "[", "{", "}", ",", ":", " ", "\x00", "[]", "0]"}
	for _, s := range whatever {
		wantParse(t, open(400)+s, 400, api.ErrFull)
		wantParse(t, row+s, len(row), api.ErrFull)
		wantParse(t, deep+s, len(deep), api.ErrFull)
		wantParse(t, open(200)+strings.Repeat("1,", 200)+s, 600, api.ErrFull)
		wantParse(t, open(398)+`{"a":{"b":`+s, 408, api.ErrFull)
	}
	wantParse(t, row+"]", len(row), api.ErrFull)
	wantParse(t, deep+"]", len(deep), api.ErrFull)
	wantParse(t, open(400)+strings.Repeat("]", 400), 0, api.OK)
	wantParse(t, open(400)+strings.Repeat("]", 399), 799, api.ErrSyntax)
	wantParse(t, open(400)+"],", 402, api.ErrFull)
	wantParse(t, open(399)+"{"+"}"+strings.Repeat("]", 399), 0, api.OK)
	wantParse(t, open(399)+"{", 400, api.ErrSyntax)
	wantParse(t, open(399)+"{x", 400, api.ErrSyntax)
	wantParse(t, open(399)+`{""`, 400, api.ErrSyntax)
	wantParse(t, open(399)+`{"a`, 400, api.ErrSyntax)
	wantParse(t, open(399)+`{"a"`, 403, api.ErrSyntax)
	wantParse(t, open(399)+`{"a":`, 404, api.ErrFull)
	wantParse(t, open(399), 399, api.ErrSyntax)
	wantParse(t, open(399)+"x", 399, api.ErrSyntax)
	wantParse(t, row[:len(row)-1], len(row)-1, api.ErrSyntax)
	wantParse(t, row[:len(row)-1]+"x", len(row)-1, api.ErrSyntax)
	wantParse(t, row[:len(row)-1]+"]", 0, api.OK)
	wantParse(t, row[:len(row)-3]+"x,0", len(row)-3, api.ErrSyntax)
}

// J1: each text that Print writes, cut at each byte, with a byte more, with a byte at each place, less, and changed to each other one, is told as the chapter has it.
func TestParseNear(t *testing.T) {
	for _, x := range right {
		for i := range len(x.text) + 1 {
			wantJudged(t, x.text[:i])
			for c := range 256 {
				b := string([]byte{byte(c)})
				wantJudged(t, x.text[:i]+b+x.text[i:])
				if i < len(x.text) {
					wantJudged(t, x.text[:i]+b+x.text[i+1:])
				}
			}
			if i < len(x.text) {
				wantJudged(t, x.text[:i]+x.text[i+1:])
			}
		}
	}
}

// J1: all texts of a few pieces.
func TestParsePieces(t *testing.T) {
	pieces := []string{`{`, `}`, `[`, `]`, `"a"`, `"b":`, `"`, `:`, `,`, `0`, `-`, `true`, `n`}
	texts := []string{""}
	for range 5 {
		var longer []string
		for _, s := range texts {
			for _, p := range pieces {
				longer = append(longer, s+p)
			}
		}
		texts = longer
		for _, s := range texts {
			wantJudged(t, s)
		}
	}
}

// wantJudged asks Parse for what judged says, and that what it takes is printed so.
func wantJudged(t testing.TB, s string) {
	t.Helper()
	at, want := judged(s)
	x, got, err := Parse(s)
	if got != at || plain.Told(err) != want {
		t.Fatalf("Parse of %q: got %d, %v, want %d, %v", s, got, err, at, want)
	}
	if err != nil {
		if !same(x, null) {
			t.Fatalf("Parse of %q: got %v beside %v", s, x, err)
		}
		return
	}
	if again, err := Print(x); again != s || err != nil {
		t.Fatalf("Print of Parse of %q: got %q, %v", s, again, err)
	}
}

var (
	textForm   = regexp.MustCompile(`^"(?:[ !#-\[\]-~]|\\["\\]|\\[01][0-9a-f]|\\7f|\\[89a-f][0-9a-f])*"`)
	byteForm   = regexp.MustCompile(`\\["\\]|\\..|.`)
	digitsForm = regexp.MustCompile(`^[-0-9]+`)
	numberForm = regexp.MustCompile(`^(?:0|-?[1-9][0-9]*)$`)
	wordForm   = regexp.MustCompile(`^(?:null|true|false)`)
)

// judge goes through a text piece by piece, by what may stand next, with the brackets that are open on a pile.
type judge struct {
	rest  string
	begun int
	open  []string // "{" or "["
	keys  []string // of each that is open the last key
	next  func() (api.Errno, bool)
}

// judged tells where a text is wrong, by other means than Parse.
func judged(s string) (int, api.Errno) {
	if len(s) > 60_000 {
		return 0, api.ErrFull
	}
	j := &judge{rest: s}
	j.next = j.tree
	for {
		if err, over := j.next(); over && err == api.OK {
			return 0, api.OK
		} else if err != api.OK {
			return len(s) - len(j.rest), err
		}
	}
}

func (j *judge) goOn(bytes int, next func() (api.Errno, bool)) (api.Errno, bool) {
	if bytes == 0 {
		return api.ErrSyntax, true
	}
	j.rest, j.next = j.rest[bytes:], next
	return api.OK, false
}

func (j *judge) stands(piece string) int {
	if strings.HasPrefix(j.rest, piece) {
		return len(piece)
	}
	return 0
}

func (j *judge) tree() (api.Errno, bool) {
	if j.begun == 400 {
		return api.ErrFull, true
	}
	j.begun++
	for _, bracket := range []string{"{", "["} {
		if j.stands(bracket) > 0 {
			j.open, j.keys = append(j.open, bracket), append(j.keys, "")
			return j.goOn(1, j.first)
		}
	}
	if s := textForm.FindString(j.rest); s != "" && len(byteForm.FindAllString(s, -1)) <= 62 {
		return j.goOn(len(s), j.behind)
	}
	if s := digitsForm.FindString(j.rest); s != "" {
		n, _ := new(big.Int).SetString(s, 10)
		if !numberForm.MatchString(s) || !n.IsInt64() {
			return api.ErrSyntax, true
		}
		return j.goOn(len(s), j.behind)
	}
	return j.goOn(len(wordForm.FindString(j.rest)), j.behind)
}

func (j *judge) first() (api.Errno, bool) {
	if j.isClosed() {
		return j.close()
	}
	return j.one()
}

// one is a thing within brackets.
func (j *judge) one() (api.Errno, bool) {
	if j.open[len(j.open)-1] == "[" {
		return j.tree()
	}
	s := textForm.FindString(j.rest)
	key := ""
	if s != "" {
		key = byteForm.ReplaceAllStringFunc(s[1:len(s)-1], plainByte)
	}
	last := len(j.keys) - 1
	if key == "" || len(key) > 20 || strings.Compare(j.keys[last], key) >= 0 {
		return api.ErrSyntax, true
	}
	j.keys[last] = key
	return j.goOn(len(s), func() (api.Errno, bool) { return j.goOn(j.stands(":"), j.tree) })
}

func (j *judge) behind() (api.Errno, bool) {
	if len(j.open) == 0 {
		if j.rest != "" {
			return api.ErrSyntax, true
		}
		return api.OK, true
	}
	if j.isClosed() {
		return j.close()
	}
	return j.goOn(j.stands(","), j.one)
}

func (j *judge) isClosed() bool {
	bracket := map[string]string{"{": "}", "[": "]"}[j.open[len(j.open)-1]]
	return j.stands(bracket) > 0
}

func (j *judge) close() (api.Errno, bool) {
	j.open, j.keys = j.open[:len(j.open)-1], j.keys[:len(j.keys)-1]
	return j.goOn(1, j.behind)
}

// plainByte is the byte that a piece of a quoted text stands for.
func plainByte(s string) string {
	switch len(s) {
	case 1:
		return s
	case 2:
		return s[1:]
	}
	n, _ := strconv.ParseUint(s[1:], 16, 8)
	return string([]byte{byte(n)})
}
