package season

import (
	"strings"

	"peavey/api"
)

// mostRead is the greatest number that is read from a file; it has 18 digits.
const mostRead = 999_999_999_999_999_999

// file returns the file of the season.
func (o *office) file() string {
	var file strings.Builder
	for _, x := range o.Owners {
		file.WriteString(lineOf(wordOwner, writeNumber(x.Number), x.Mark, writeNumber(x.Paid)))
	}
	for _, l := range o.Logs {
		state := wordHere
		if l.Gone {
			state = wordGone
		}
		file.WriteString(lineOf(wordLog, writeNumber(l.Number), writeSeen(l.Seen), writeNumber(l.Feet), writeNumber(l.Owner), state))
	}
	return file.String()
}

// readFile returns the season that a file tells, which need not be valid, or the error of the file.
func readFile(file string) (api.Season, api.Errno) {
	if len(file) > api.MaxSeasonFile {
		return api.Season{}, api.ErrLong
	}
	var s api.Season
	for line := range strings.Lines(file) {
		words := wordsOf(line)
		owner, isOwner := readOwner(words)
		log, isLog := readLog(words)
		switch {
		case isOwner && len(s.Logs) == 0:
			s.Owners = append(s.Owners, owner)
		case isLog:
			s.Logs = append(s.Logs, log)
		default:
			return api.Season{}, api.ErrForm
		}
	}
	return s, api.OK
}

// readOwner reads the words of an owner's line.
func readOwner(words []string) (api.SeasonOwner, bool) {
	if len(words) != 4 || words[0] != wordOwner || !isWord(words[2]) {
		return api.SeasonOwner{}, false
	}
	numbers, areNumbers := readNumbers(words[1], words[3])
	if !areNumbers {
		return api.SeasonOwner{}, false
	}
	return api.SeasonOwner{Number: numbers[0], Mark: words[2], Paid: numbers[1]}, true
}

// readLog reads the words of a log's line.
func readLog(words []string) (api.SeasonLog, bool) {
	if len(words) != 6 || words[0] != wordLog || words[2] != nothing && !isWord(words[2]) {
		return api.SeasonLog{}, false
	}
	numbers, areNumbers := readNumbers(words[1], words[3], words[4])
	state := words[5]
	if !areNumbers || state != wordHere && state != wordGone {
		return api.SeasonLog{}, false
	}
	return api.SeasonLog{Number: numbers[0], Seen: readSeen(words[2]), Feet: numbers[1], Owner: numbers[2], Gone: state == wordGone}, true
}

// readNumbers reads numbers of a file, which can be too great.
func readNumbers(words ...string) ([]int64, bool) {
	var numbers []int64
	for _, word := range words {
		n, isNumber := readNumber(word, 0, mostRead)
		if !isNumber {
			return nil, false
		}
		numbers = append(numbers, n)
	}
	return numbers, true
}
