package season

import (
	"iter"

	"peavey/api"
)

// book is a clerk's book, with the office after all of its lines.
type book struct {
	*office
	lines    []line
	errors   []api.Errno
	isStruck []bool
}

// play returns the book of lines that are written one after another.
func play(lines []line) *book {
	b := &book{office: &office{}}
	for _, l := range lines {
		b.write(l)
	}
	return b
}

// write does a line, and writes it down with its error.
func (b *book) write(l line) {
	deed := b.do
	if l.word == wordStrike {
		deed = b.strike
	}
	e := deed(l)
	b.lines = append(b.lines, l)
	b.errors = append(b.errors, e)
	b.isStruck = append(b.isStruck, false)
}

// isInEffect reports whether the line with an index is in effect.
func (b *book) isInEffect(index int) bool {
	return b.errors[index] == api.OK && b.lines[index].word != wordStrike && !b.isStruck[index]
}

// inEffect yields all lines that are in effect.
func (b *book) inEffect() iter.Seq[line] {
	return func(yield func(line) bool) {
		for i, l := range b.lines {
			if b.isInEffect(i) && !yield(l) {
				return
			}
		}
	}
}

// strike strikes a line.
func (b *book) strike(l line) api.Errno {
	struck := int(l.many) - 1
	switch {
	case l.many >= int64(l.number):
		return api.ErrRange
	case !b.isInEffect(struck):
		return api.ErrNone
	}
	b.isStruck[struck] = true
	o, e := again(b.inEffect())
	if e != api.OK {
		b.isStruck[struck] = false
		return api.ErrPlan
	}
	b.office = o
	return api.OK
}
