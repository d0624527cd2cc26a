package slip

import "wishbook/api"

// set is some slips: it has the slip k just if its bit k is 1.
type set int

func setOf(slips []int) set {
	var s set
	for _, slip := range slips {
		s = s.with(slip)
	}
	return s
}

func (s set) has(slip int) bool { return s>>slip&1 == 1 }

func (s set) with(slip int) set { return s | 1<<slip }

func (s set) members() []int {
	var list []int
	for slip := range api.SlipSlips {
		if s.has(slip) {
			list = append(list, slip)
		}
	}
	return list[:len(list):len(list)]
}
