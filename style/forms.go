package style

// form is the layers of a form: one bit for each, set if the form was found there.
type form uint8

// forms are all forms of checked finds.
type forms []form

func formsOf(f Finds) forms {
	all := make(forms, len(f.Forms))
	for i, layers := range f.Forms {
		for _, layer := range layers {
			all[i] |= only(layer)
		}
	}
	return all
}

// only is a form of one layer.
func only(layer int) form { return 1 << layer }

func (f form) has(layer int) bool { return f&only(layer) != 0 }

// gaps returns how many gaps the form has in an order.
func (f form) gaps(order []int) int {
	runs, inside := 0, false
	for _, layer := range order {
		if f.has(layer) && !inside {
			runs++
		}
		inside = f.has(layer)
	}
	return runs - 1
}

// dates returns the smallest and the greatest place of the form in an order.
func (f form) dates(order []int) [2]int {
	first, last := len(order), 0
	for place, layer := range order {
		if f.has(layer) {
			first, last = min(first, place), place
		}
	}
	return [2]int{first, last}
}

// gaps returns how many gaps the forms have together.
func (all forms) gaps(order []int) int {
	gaps := 0
	for _, f := range all {
		gaps += f.gaps(order)
	}
	return gaps
}

// fit returns whether all forms are whole in an order.
func (all forms) fit(order []int) bool { return all.gaps(order) == 0 }

// broken returns the indices of the forms that are not whole in an order.
func (all forms) broken(order []int) []int {
	var indices []int
	for i, f := range all {
		if f.gaps(order) > 0 {
			indices = append(indices, i)
		}
	}
	return indices
}

func (all forms) dates(order []int) [][2]int {
	dates := make([][2]int, len(all))
	for i, f := range all {
		dates[i] = f.dates(order)
	}
	return dates
}

// chained returns whether there is a chain from one layer to another past a third one.
func (all forms) chained(from, to, past int) bool {
	reached, before := only(from), form(0)
	for reached != before {
		before = reached
		for _, f := range all {
			if !f.has(past) && f&reached != 0 {
				reached |= f
			}
		}
	}
	return reached.has(to)
}

// apart returns whether three layers are apart.
func (all forms) apart(a, b, c int) bool {
	return all.chained(a, b, c) && all.chained(b, c, a) && all.chained(a, c, b)
}

// firstApart returns the first three of n layers that are apart, and whether there are any.
func (all forms) firstApart(n int) ([3]int, bool) {
	for a := range n {
		for b := a + 1; b < n; b++ {
			for c := b + 1; c < n; c++ {
				if all.apart(a, b, c) {
					return [3]int{a, b, c}, true
				}
			}
		}
	}
	return [3]int{}, false
}
