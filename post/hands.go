package post

// set is some places, each of them as the bit of its number.
type set uint16

// only returns the set of one place.
func only(place int) set { return 1 << place }

// firsts returns the set of the first n places.
func firsts(n int) set { return only(n) - 1 }

// places returns the places of a set in ascending order.
func (s set) places() []int {
	var list []int
	for place := range MaxPlaces {
		if s&only(place) != 0 {
			list = append(list, place)
		}
	}
	return list
}

// hands is, for each place of a shore, what is at hand of it.
type hands []set

func handsOf(shore []int) hands {
	h := make(hands, len(shore))
	for place := range len(shore) {
		h[place] |= only(place)
		if place > 0 {
			behind := shore[place]
			h[place] |= only(behind)
			h[behind] |= only(place)
		}
	}
	return h
}

// guarded returns whether posts guard the shore. A place has a post at hand just if it is itself at hand of that post.
func (h hands) guarded(posts []int) bool {
	var reached set
	for _, post := range posts {
		reached |= h[post]
	}
	return reached == firsts(len(h))
}

// apart returns whether places are apart.
func (h hands) apart(places []int) bool {
	var reached set
	for _, place := range places {
		if reached&h[place] != 0 {
			return false
		}
		reached |= h[place]
	}
	return true
}
