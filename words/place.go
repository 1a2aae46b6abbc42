package words

import (
	"unicode/utf8"

	"commonbook/api"
)

// What a place is counted in.
const (
	inBytes = 1
	inRunes = 2
	inUnits = 3 // of UTF-16
)

// Convert counts a place otherwise.
func Convert(s string, at, from, to int) (int, error) {
	if !utf8.ValidString(s) {
		return 0, api.ErrSyntax
	}
	if !isCounted(from) || !isCounted(to) {
		return 0, api.ErrRange
	}
	ahead, answer := 0, 0
	for _, r := range s {
		if ahead >= at {
			break
		}
		ahead += width(r, from)
		answer += width(r, to)
	}
	// Less than at is behind the end, and more is within a rune, or at is below 0.
	if ahead != at {
		return 0, api.ErrRange
	}
	return answer, nil
}

// Breaks tells where words begin and end.
func Breaks(s string) ([]int, error) {
	if !utf8.ValidString(s) {
		return nil, api.ErrSyntax
	}
	var l []int
	at, isWithin := 0, false
	for _, r := range s {
		if isOfWord(r) != isWithin {
			l = append(l, at)
			isWithin = !isWithin
		}
		at++
	}
	if isWithin {
		l = append(l, at)
	}
	return l, nil
}

func isCounted(in int) bool { return in == inBytes || in == inRunes || in == inUnits }

// width tells how many of what is counted a rune has.
func width(r rune, in int) int {
	switch {
	case in == inBytes:
		return utf8.RuneLen(r)
	case in == inUnits && r >= 65536:
		return 2
	}
	return 1
}

func isOfWord(r rune) bool {
	return 'a' <= r && r <= 'z' || 'A' <= r && r <= 'Z' || '0' <= r && r <= '9' || r >= 128
}
