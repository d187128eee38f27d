package quorum_test

import (
	"slices"
	"strconv"
	"testing"

	"tontine/api"
)

// Three answers are enough, and two are not, whichever they are and in whichever order they come.
func TestThreeOfFour(t *testing.T) {
	for set := range 16 {
		for _, order := range orders() {
			r := made(t, 9)
			var want api.Item
			want.Bucket, want.Ver = 9, 4
			missing := slices.Clone(everyone)
			n := 0
			for _, replica := range order {
				if set>>replica&1 == 0 {
					continue
				}
				n++
				adds(t, r, replica, told(uint32(10+replica), 4, "v"))
				want.Incs[replica] = uint32(10 + replica)
				missing = slices.DeleteFunc(missing, func(other int) bool { return other == replica })
				lists(t, r, missing, nil)
				if n < enough {
					resultsNot(t, r, api.ErrQuorumFew)
				} else {
					results(t, r, want, holding("v"))
				}
			}
		}
	}
}

// orders are all in which four replicas may answer.
func orders() [][]int {
	var l [][]int
	every(4, 4, func(o []int) {
		if sorted := slices.Sorted(slices.Values(o)); slices.Equal(sorted, everyone) {
			l = append(l, slices.Clone(o))
		}
	})
	return l
}

// Of those with the greatest version the first one by number is told, not the first that came.
func TestFirstOfTheNewest(t *testing.T) {
	for newest := 1; newest < 16; newest++ {
		for _, order := range orders() {
			r := made(t, 9)
			first := -1
			var stale []int
			for replica := range 4 {
				if newest>>replica&1 == 0 {
					stale = append(stale, replica)
				} else if first < 0 {
					first = replica
				}
			}
			for _, replica := range order {
				ver := uint32(5)
				if slices.Contains(stale, replica) {
					ver = uint32(replica)
				}
				adds(t, r, replica, told(1, ver, strconv.Itoa(replica)))
			}
			results(t, r, api.Item{Bucket: 9, Ver: 5, Incs: [4]uint32{1, 1, 1, 1}}, holding(strconv.Itoa(first)))
			lists(t, r, nil, stale)
		}
	}
}

// Versions are compared as numbers without a sign, of all their bits.
func TestVersionsAtTheEdges(t *testing.T) {
	versions := append([]uint32{0}, edges...)
	for x, less := range versions {
		for _, more := range versions[x+1:] {
			for at := range 4 {
				for _, order := range orders() {
					r := made(t, 9)
					for _, replica := range order {
						if replica == at {
							adds(t, r, replica, told(1, more, "more"))
						} else {
							adds(t, r, replica, told(2, less, "less"))
						}
					}
					i, l, e := r.Result()
					if i.Ver != more || !slices.Equal(l, holding("more")) || e != api.OK {
						t.Fatalf("%d at %d beside %d: %v, %v, %d", more, at, less, i, l, e)
					}
					lists(t, r, nil, others(at))
				}
			}
		}
	}
}

// A version of 0 is one as any other: its entries are told, and who has it is not stale by itself.
func TestVersionZero(t *testing.T) {
	for _, order := range orders() {
		r := made(t, 9)
		for _, replica := range order {
			adds(t, r, replica, told(1, 0, strconv.Itoa(replica)))
			lists(t, r, r.Missing(), nil)
		}
		results(t, r, api.Item{Bucket: 9, Incs: [4]uint32{1, 1, 1, 1}}, holding("0"))
	}
}

// Who is behind is told of few answers, too, and again of each one more.
func TestStaleOfFewAnswers(t *testing.T) {
	r := made(t, 9)
	adds(t, r, 2, told(1, 3, "two"))
	lists(t, r, []int{0, 1, 3}, nil)
	adds(t, r, 3, told(1, 2, "three"))
	lists(t, r, []int{0, 1}, []int{3})
	resultsNot(t, r, api.ErrQuorumFew)
	adds(t, r, 0, told(1, 4, "zero"))
	lists(t, r, []int{1}, []int{2, 3})
	results(t, r, api.Item{Bucket: 9, Ver: 4, Incs: [4]uint32{1, 0, 1, 1}}, holding("zero"))
	adds(t, r, 1, told(1, 5, "one"))
	lists(t, r, nil, []int{0, 2, 3})
	results(t, r, api.Item{Bucket: 9, Ver: 5, Incs: [4]uint32{1, 1, 1, 1}}, holding("one"))
}

// The incarnations do not weigh: the greatest version may be of the least one.
func TestIncarnationsDoNotWeigh(t *testing.T) {
	r := made(t, 9)
	adds(t, r, 0, told(greatest, 3, "zero"))
	adds(t, r, 1, told(1, 4, "one"))
	adds(t, r, 3, told(9, 4, "three"))
	results(t, r, api.Item{Bucket: 9, Ver: 4, Incs: [4]uint32{greatest, 1, 0, 9}}, holding("one"))
	lists(t, r, []int{2}, []int{0})
}

// To ask changes nothing.
func TestResultAgain(t *testing.T) {
	r := made(t, 9)
	for replica := range 4 {
		adds(t, r, replica, told(uint32(replica+1), uint32(replica%3), strconv.Itoa(replica)))
	}
	for range 5 {
		results(t, r, api.Item{Bucket: 9, Ver: 2, Incs: [4]uint32{1, 2, 3, 4}}, holding("2"))
		lists(t, r, nil, []int{0, 1, 3})
	}
}
