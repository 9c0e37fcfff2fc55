package season

import (
	"strconv"
	"strings"

	"peavey/api"
)

// line is a line of a text.
type line struct {
	number int
	word   string
	// What follows the number, as it is written.
	rest       string
	owner, log int64
	// A mark, or what is seen.
	letters string
	// So many feet, pence or logs, or the number of another line.
	many int64
}

// as returns a line as it is written with another number.
func (l line) as(number int) string {
	return lineOf(strconv.Itoa(number), l.rest)
}

// placesOf returns what follows a word, with a letter for each place.
func placesOf(word string) string {
	switch word {
	case wordMark:
		return "OM"
	case wordLog:
		return "LSF"
	case wordClaim:
		return "LO"
	case wordRaft:
		return "ON"
	case wordPay:
		return "OP"
	case wordStrike:
		return "K"
	}
	return ""
}

// fill takes over what is written at a place, and reports whether it can be there.
func (l *line) fill(place byte, word string) bool {
	isRight := false
	switch place {
	case 'O':
		l.owner, isRight = readNumber(word, 1, api.MaxNumber)
	case 'L':
		l.log, isRight = readNumber(word, 1, api.MaxNumber)
	case 'M':
		l.letters, isRight = word, isMark(word)
	case 'S':
		l.letters, isRight = readSeen(word), word == nothing || isMark(word)
	case 'F':
		l.many, isRight = readNumber(word, 1, api.MaxSeasonFeet)
	case 'P':
		l.many, isRight = readNumber(word, 1, api.MaxSeasonPence)
	case 'N':
		l.many, isRight = readNumber(word, 1, api.MaxSeasonLogs)
	case 'K':
		l.many, isRight = readNumber(word, 1, api.MaxSeasonLines)
	}
	return isRight
}

// readLine reads a line, which must have a number.
func readLine(text string, number int) (line, bool) {
	words := wordsOf(text)
	if len(words) < 2 || words[0] != strconv.Itoa(number) {
		return line{}, false
	}
	l := line{number: number, word: words[1], rest: strings.Join(words[1:], blank)}
	places := placesOf(l.word)
	if places == "" || len(words[2:]) != len(places) {
		return line{}, false
	}
	for i, word := range words[2:] {
		if !l.fill(places[i], word) {
			return line{}, false
		}
	}
	return l, true
}

// readText returns the lines of a text, or its error.
func readText(text string) ([]line, api.Errno) {
	if len(text) > api.MaxSeasonText {
		return nil, api.ErrLong
	}
	var lines []line
	for next := range strings.Lines(text) {
		l, isLine := readLine(next, len(lines)+1)
		if !isLine {
			return nil, api.ErrForm
		}
		lines = append(lines, l)
	}
	if len(lines) > api.MaxSeasonLines {
		return nil, api.ErrMany
	}
	return lines, api.OK
}
