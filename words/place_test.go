package words

import (
	"math"
	"regexp"
	"slices"
	"strings"
	"testing"
	"unicode/utf16"
	"unicode/utf8"

	"commonbook/api"
	"commonbook/plain"
)

func wantConvert(t testing.TB, s string, at, from, to, want int) {
	t.Helper()
	if got, err := Convert(s, at, from, to); got != want || err != nil {
		t.Errorf("Convert in %q of %d from %d to %d: got %d, %v, want %d", s, at, from, to, got, err, want)
	}
}

func wantNoConvert(t testing.TB, s string, at, from, to int, want api.Errno) {
	t.Helper()
	if got, err := Convert(s, at, from, to); got != 0 || plain.Told(err) != want {
		t.Errorf("Convert in %.20q of %d from %d to %d: got %d, %v, want %v", s, at, from, to, got, err, want)
	}
}

func wantBreaks(t testing.TB, s string, want ...int) {
	t.Helper()
	if got, err := Breaks(s); !slices.Equal(got, want) || err != nil {
		t.Errorf("Breaks of %q: got %v, %v, want %v", s, got, err, want)
	}
}

func wantNoBreaks(t testing.TB, s string) {
	t.Helper()
	if got, err := Breaks(s); len(got) > 0 || plain.Told(err) != api.ErrSyntax {
		t.Errorf("Breaks of %.20q: got %v, %v, want ErrSyntax", s, got, err)
	}
}

// mixed are texts with runes of one to four bytes.
var mixed = []string{
	"", "a", "\u00e9", "\u20ac", "\U0001f600", "hello", "a\u00e9 b", "a\u00e9\u20ac\U0001f600", "\U0001f600\u20ac\u00e9a", "\U0001f600\U0001f600\U0001f600",
	"\u20ac\u20ac", "\x00\x7f\u0080\u07ff\u0800\ud7ff\ue000\ufffd\uffff\U00010000\U0010ffff", "\U0010ffff\U00010000\uffff\ufffd\ue000\ud7ff\u0800\u07ff\u0080\x7f\x00",
	"e\u0301\ufeff", "\ufffd", "\ufffda\ufffd",
}

// counted tells how much of each a text has: by the library, and not rune by rune.
func counted(s string) [4]int {
	return [4]int{0, len(s), utf8.RuneCountInString(s), len(utf16.Encode([]rune(s)))}
}

// W2: each place of a text, counted in each way, is the same place counted in each other one; and all else is none.
func TestConvert(t *testing.T) {
	for _, s := range mixed {
		places := [][4]int{}
		for i := range s + "." {
			places = append(places, counted(s[:i]))
		}
		for from := 1; from <= 3; from++ {
			for to := 1; to <= 3; to++ {
				for at := -3; at <= len(s)+3; at++ {
					i := slices.IndexFunc(places, func(p [4]int) bool { return p[from] == at })
					if i < 0 {
						wantNoConvert(t, s, at, from, to, api.ErrRange)
						continue
					}
					wantConvert(t, s, at, from, to, places[i][to])
				}
			}
		}
	}
}

// W2: places written out.
func TestConvertPlaces(t *testing.T) {
	wantConvert(t, "a\u00e9 b", 3, inBytes, inRunes, 2)
	s := "a\u00e9\u20ac\U0001f600b"
	for _, p := range [][3]int{{0, 0, 0}, {1, 1, 1}, {3, 2, 2}, {6, 3, 3}, {10, 4, 5}, {11, 5, 6}} {
		for from := range 3 {
			for to := range 3 {
				wantConvert(t, s, p[from], from+1, to+1, p[to])
			}
		}
	}
	for to := 1; to <= 3; to++ {
		for _, at := range []int{2, 4, 5, 7, 8, 9, 12} {
			wantNoConvert(t, s, at, 1, to, api.ErrRange)
		}
		wantNoConvert(t, s, 6, 2, to, api.ErrRange)
		wantNoConvert(t, s, 4, 3, to, api.ErrRange)
		wantNoConvert(t, s, 7, 3, to, api.ErrRange)
	}
	wantConvert(t, "\uffff", 1, 3, 1, 3)
	wantConvert(t, "\U00010000", 2, 3, 1, 4)
	wantNoConvert(t, "\U00010000", 1, 3, 1, api.ErrRange)
}

// W2: ErrRange of a from or to that is none, at each place, and of great numbers.
func TestConvertRange(t *testing.T) {
	none := []int{math.MinInt, -3, -2, -1, 0, 4, 5, 6, math.MaxInt}
	for _, s := range []string{"", "abc", "\U0001f600\u20ac"} {
		for _, bad := range none {
			for _, at := range []int{0, 1, 2, 3, 100, -1, math.MinInt, math.MaxInt} {
				for way := 1; way <= 3; way++ {
					wantNoConvert(t, s, at, bad, way, api.ErrRange)
					wantNoConvert(t, s, at, way, bad, api.ErrRange)
				}
				wantNoConvert(t, s, at, bad, bad, api.ErrRange)
			}
		}
		for _, at := range []int{math.MinInt, math.MinInt + 1, -100, 100, math.MaxInt - 1, math.MaxInt} {
			for way := range 9 {
				wantNoConvert(t, s, at, 1+way/3, 1+way%3, api.ErrRange)
			}
		}
	}
}

// W2: ErrSyntax of a text that is no UTF-8, ahead of all else, wherever in it that is.
func TestNotUtf8(t *testing.T) {
	for _, bad := range notUtf8 {
		for _, s := range []string{bad, "a" + bad, bad + " ", "\u20ac b" + bad + " c", strings.Repeat(" a", 100) + bad} {
			for _, at := range []int{0, 1, 2, -1, math.MaxInt, math.MinInt} {
				for _, from := range []int{1, 2, 3, 0, 4, -1} {
					for _, to := range []int{1, 2, 3, 0, 4, -1} {
						wantNoConvert(t, s, at, from, to, api.ErrSyntax)
					}
				}
			}
			wantNoBreaks(t, s)
		}
	}
}

// byTable tells by the table of Unicode (3-7) whether some bytes are UTF-8.
func byTable(s string) bool {
	for len(s) > 0 {
		n, low, high := 0, byte(0x80), byte(0xbf)
		switch c := s[0]; {
		case c < 0x80:
			n = 1
		case 0xc2 <= c && c <= 0xdf:
			n = 2
		case c == 0xe0:
			n, low = 3, 0xa0
		case c == 0xed:
			n, high = 3, 0x9f
		case 0xe1 <= c && c <= 0xef:
			n = 3
		case c == 0xf0:
			n, low = 4, 0x90
		case c == 0xf4:
			n, high = 4, 0x8f
		case 0xf1 <= c && c <= 0xf3:
			n = 4
		}
		if n == 0 || len(s) < n || n > 1 && (s[1] < low || s[1] > high) {
			return false
		}
		for i := 2; i < n; i++ {
			if s[i]&0xc0 != 0x80 {
				return false
			}
		}
		s = s[n:]
	}
	return true
}

// W1, W2: what is UTF-8 and what is none, over all texts of four bytes that are edges of it.
func TestUtf8(t *testing.T) {
	edges := []byte{0, ' ', 'a', 0x7f, 0x80, 0x8f, 0x90, 0x9f, 0xa0, 0xbf, 0xc0, 0xc1, 0xc2, 0xdf, 0xe0, 0xec, 0xed, 0xef, 0xf0, 0xf1, 0xf4, 0xf5, 0xff}
	d := listed(t)
	texts := []string{""}
	for range 4 {
		var longer []string
		for _, s := range texts {
			for _, c := range edges {
				longer = append(longer, s+string([]byte{c}))
			}
		}
		texts = longer
		for _, s := range texts {
			isUtf8 := byTable(s)
			_, err := Breaks(s)
			if _, other := Convert(s, 0, 1, 2); (err == nil) != isUtf8 || (other == nil) != isUtf8 {
				t.Fatalf("%q: Breaks says %v, Convert %v", s, err, other)
			}
			want := api.ErrSyntax
			if isUtf8 {
				// There is nothing that could be gone.
				want = api.ErrRange
			}
			wantTold(t, "Splice", Splice(d, list, 0, 1, s), want)
		}
	}
}

// W2: places at which words begin and end, written out.
func TestBreaks(t *testing.T) {
	wantBreaks(t, "")
	wantBreaks(t, "a\u00e9 b", 0, 2, 3, 4)
	wantBreaks(t, "hello world", 0, 5, 6, 11)
	wantBreaks(t, "hello", 0, 5)
	wantBreaks(t, " ")
	wantBreaks(t, " .,-_\n\t\x00\x7f")
	wantBreaks(t, " hello ", 1, 6)
	wantBreaks(t, "  a  ", 2, 3)
	wantBreaks(t, "a.b", 0, 1, 2, 3)
	wantBreaks(t, ".a.b.", 1, 2, 3, 4)
	wantBreaks(t, "a1b2 3c", 0, 4, 5, 7)
	wantBreaks(t, "it's", 0, 2, 3, 4)
	wantBreaks(t, "a_b", 0, 1, 2, 3)
	wantBreaks(t, "\U0001f600.", 0, 1)
	wantBreaks(t, ".\U0001f600", 1, 2)
	wantBreaks(t, "\u20ac5 \u20ac\u20ac", 0, 2, 3, 5)
	wantBreaks(t, "\u00a0\u2014\u3000", 0, 3)
	wantBreaks(t, "a\u00e9\u20ac\U0001f600 \U0001f600", 0, 4, 5, 6)
	wantBreaks(t, "\ufffd \ufffd", 0, 1, 2, 3)
	wantBreaks(t, strings.Repeat("ab ", 1000)[:2999], func() (l []int) {
		for i := range 1000 {
			l = append(l, 3*i, 3*i+2)
		}
		return l
	}()...)
}

// W2: each rune alone, and between two that are of a word, and two that are none.
func TestBreaksOfEachRune(t *testing.T) {
	for r := rune(0); r <= 0x10ffff; r++ {
		if r > 0x300 && r < 0xfe00 && r%97 != 0 || r > 0x11000 && r%997 != 0 && r < 0x10fff0 || r >= 0xd800 && r < 0xe000 {
			continue
		}
		s := string(r)
		if strings.Contains("abcdefghijklmnopqrstuvwxyzABCDEFGHIJKLMNOPQRSTUVWXYZ0123456789", s) || r > 127 {
			wantBreaks(t, s, 0, 1)
			wantBreaks(t, "a"+s+"b", 0, 3)
			wantBreaks(t, " "+s+".", 1, 2)
			continue
		}
		wantBreaks(t, s)
		wantBreaks(t, "a"+s+"b", 0, 1, 2, 3)
		wantBreaks(t, " "+s+".")
	}
}

// W2: one sort behind the other, in each order, against words that are found otherwise.
func TestBreaksInEachOrder(t *testing.T) {
	word := regexp.MustCompile(`[a-zA-Z0-9\x{80}-\x{10ffff}]+`)
	texts := []string{""}
	for range 5 {
		var longer []string
		for _, s := range texts {
			for _, r := range []string{"a", "Z", "5", "\u0080", "\u20ac", "\U0001f600", " ", "{", "\x7f"} {
				longer = append(longer, s+r)
			}
		}
		texts = longer
		for _, s := range texts {
			var want []int
			for _, at := range word.FindAllStringIndex(s, -1) {
				want = append(want, utf8.RuneCountInString(s[:at[0]]), utf8.RuneCountInString(s[:at[1]]))
			}
			wantBreaks(t, s, want...)
		}
	}
}

// P2: what Breaks answers is fresh.
func TestBreaksAreFresh(t *testing.T) {
	first, err := Breaks("a b")
	must(t, err)
	clear(first)
	wantBreaks(t, "a b", 0, 1, 2, 3)
}
