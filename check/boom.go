package check

// boom is the logs of a bench, with how many of them are wrong.
type boom struct {
	wrong int
	// The choices of the wrong logs, and of the right ones.
	ofWrong, ofRight row
}

// spoiled returns a boom, one that has a right log, with one wrong log more.
func (m boom) spoiled() boom {
	m.wrong++
	m.ofWrong.add()
	m.ofRight.remove()
	return m
}

// samples returns in how many samples of a size just so many are found.
func (m boom) samples(size, found int) int64 {
	return m.ofWrong[found] * m.ofRight[size-found]
}

// atMost returns in how many samples of a size at most so many are found.
func (m boom) atMost(size, found int) int64 {
	var samples int64
	for fewer := range found + 1 {
		samples += m.samples(size, fewer)
	}
	return samples
}

// atLeast returns in how many samples of a size at least so many are found.
func (m boom) atLeast(size, found int) int64 {
	var samples int64
	for more := found; more <= size; more++ {
		samples += m.samples(size, more)
	}
	return samples
}
