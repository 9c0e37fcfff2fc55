package season

import (
	"strconv"
	"strings"

	"peavey/api"
)

const (
	wordMark   = "mark"
	wordLog    = "log"
	wordClaim  = "claim"
	wordRaft   = "raft"
	wordPay    = "pay"
	wordStrike = "strike"
	wordOwner  = "owner"
	wordHere   = "here"
	wordGone   = "gone"
	// What is written if nothing is seen.
	nothing = "-"
)

const (
	blank   = " "
	newline = "\n"
)

// wordsOf returns the words of a line, between which there is one blank each; none if no newline ends it.
func wordsOf(line string) []string {
	words, isEnded := strings.CutSuffix(line, newline)
	if !isEnded {
		return nil
	}
	return strings.Split(words, blank)
}

// lineOf returns a line of words.
func lineOf(words ...string) string {
	return strings.Join(words, blank) + newline
}

// readNumber returns a number that is written as numbers are, and reports whether it is one from lo to hi.
func readNumber(word string, lo, hi int64) (int64, bool) {
	n, err := strconv.ParseInt(word, 10, 64)
	return n, err == nil && word == writeNumber(n) && within(lo, hi, n)
}

// writeNumber returns a number as it is written.
func writeNumber(n int64) string {
	return strconv.FormatInt(n, 10)
}

// readSeen returns what is seen, writeSeen how it is written.
func readSeen(word string) string {
	if word == nothing {
		return ""
	}
	return word
}

func writeSeen(seen string) string {
	if seen == "" {
		return nothing
	}
	return seen
}

// isWord reports whether a word has lower-case letters only.
func isWord(word string) bool {
	isOther := func(r rune) bool { return !within('a', 'z', r) }
	return word != "" && !strings.ContainsFunc(word, isOther)
}

// isMark reports whether a word is a mark.
func isMark(word string) bool {
	for i := range len(word) - 1 {
		if word[i] >= word[i+1] {
			return false
		}
	}
	return isWord(word) && len(word) <= api.MaxSeasonMark
}

// isSeen reports whether a mark can be worn to a word, if it has the letters.
func isSeen(word string) bool {
	return word == "" || isMark(word)
}

// canBeWorn reports whether a mark can be worn to what is seen.
func canBeWorn(mark, seen string) bool {
	for _, letter := range seen {
		if !strings.ContainsRune(mark, letter) {
			return false
		}
	}
	return true
}
