package drive

// isWhole reports whether a plan has a number for each reach on each day.
func (r river) isWhole(plan [][]int64) bool {
	if len(plan) != len(r.Reaches) {
		return false
	}
	for _, list := range plan {
		if int64(len(list)) != r.Days {
			return false
		}
	}
	return true
}

// plan returns how many logs have entered each reach on each day.
func (y *year) plan() [][]int64 {
	lists := y.emptyLists()
	for at := range y.spots() {
		today, before := y.evenings[at.day].entered, y.evenings[at.day-1].entered
		lists[at.place] = append(lists[at.place], today[at.place]-before[at.place])
	}
	var plan [][]int64
	for _, list := range lists {
		plan = append(plan, copied(list))
	}
	return plan
}

// emptyLists returns an empty list for each reach, one after another in the same memory, with room for a number for each day: none can grow into the next one.
func (r river) emptyLists() [][]int64 {
	days := int(r.Days)
	memory := make([]int64, len(r.Reaches)*days)
	var lists [][]int64
	for reach := range r.reaches() {
		from, to := reach*days, (reach+1)*days
		lists = append(lists, memory[from:from:to])
	}
	return lists
}

// list returns those of counts that are of reaches.
func (r river) list(c counts) []int64 {
	return copied(c[:len(r.Reaches)])
}
