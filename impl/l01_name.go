package impl

import "strings"

const MaxWord = 12
const MaxParts = 6

const (
	anyWord = "+"
	allLeft = "#"
)

type runeRange struct {
	first rune
	last  rune
}

func inRanges(r rune, ranges ...runeRange) bool {
	for _, one := range ranges {
		if one.first <= r && r <= one.last {
			return true
		}
	}
	return false
}

// The length counts bytes and the loop goes by runes: that is the same here, as
// each rune of the ranges is one byte, and a byte that is no text comes as
// U+FFFD, which is in no range.
func wordOk(s string) bool {
	if len(s) < 1 || len(s) > MaxWord {
		return false
	}
	for _, r := range s {
		if !inRanges(r, runeRange{'a', 'z'}, runeRange{'0', '9'}) {
			return false
		}
	}
	return true
}

func PartsOf(s string) []string { return strings.Split(s, "/") }

func TopicOk(s string) bool {
	parts := PartsOf(s)
	if len(parts) > MaxParts {
		return false
	}
	for _, part := range parts {
		if !wordOk(part) {
			return false
		}
	}
	return true
}

func FilterOk(s string) bool {
	parts := PartsOf(s)
	if len(parts) > MaxParts {
		return false
	}
	for i, part := range parts {
		isLast := i == len(parts)-1
		if !wordOk(part) && part != anyWord && !(isLast && part == allLeft) {
			return false
		}
	}
	return true
}
