package quorum_test

import (
	"testing"

	"tontine/api"
)

// looksSame asks that a call with an error changes nothing: not what was told before, nor what comes later.
func looksSame(t *testing.T, n int, call func(x *twins)) {
	t.Helper()
	x := twinsOf(t, 24, 7)
	for replica := range n {
		x.add(replica, told(uint32(replica+1), uint32(10-replica), "v"))
	}
	call(x)
	for replica := range 4 {
		x.add(replica, told(uint32(replica+5), uint32(8+replica), "w"))
	}
}

// There is no such replica, whatever else is right or wrong.
func TestAddOfNoReplica(t *testing.T) {
	for n := range 5 {
		looksSame(t, n, func(x *twins) {
			for _, replica := range wrongReplicas {
				for _, a := range []api.Answer{told(1, 99, "x"), told(0, 99, "x"), {Round: 6, Inc: 1, Ver: 99}, {}} {
					addsNot(t, x.r, replica, a, api.ErrArg)
				}
			}
		})
	}
}

// An incarnation of 0 is told ahead of the round, and that ahead of a second answer.
func TestOrderOfErrorsOfAdd(t *testing.T) {
	for n := range 5 {
		looksSame(t, n, func(x *twins) {
			for replica := range 4 {
				addsNot(t, x.r, replica, told(0, 99, "x"), api.ErrArg)
				for _, round := range append([]uint32{0}, edges...) {
					addsNot(t, x.r, replica, api.Answer{Round: round, Ver: 99}, api.ErrArg)
					if round != 7 {
						addsNot(t, x.r, replica, api.Answer{Round: round, Inc: 1, Ver: 99}, api.ErrQuorumRound)
					}
				}
				if replica < n {
					addsNot(t, x.r, replica, told(1, 99, "x"), api.ErrQuorumTwice)
				}
			}
		})
	}
}

// Only answers of the reader's own round count.
func TestAddOfOtherRounds(t *testing.T) {
	for _, own := range edges {
		for _, round := range append([]uint32{0}, edges...) {
			x := twinsOf(t, 24, own)
			want := api.OK
			if round != own {
				want = api.ErrQuorumRound
			}
			addsNot(t, x.r, 2, api.Answer{Round: round, Inc: 1}, want)
		}
	}
}

// A second answer is refused, the same one or another, also behind the fourth; the first one stays.
func TestAddTwice(t *testing.T) {
	for replica := range 4 {
		for _, second := range []api.Answer{told(3, 5, "first"), told(3, 5, "second"), told(4, 5, "first"), told(3, 6, "later"), told(3, 4, "older"), told(greatest, greatest, ""), told(1, 0, "")} {
			r := made(t, 24)
			adds(t, r, replica, told(3, 5, "first"))
			addsNot(t, r, replica, second, api.ErrQuorumTwice)
			want := api.Item{Bucket: 24, Ver: 5}
			want.Incs[replica] = 3
			for _, other := range others(replica) {
				adds(t, r, other, told(1, 1, "other"))
				want.Incs[other] = 1
				addsNot(t, r, replica, second, api.ErrQuorumTwice)
			}
			results(t, r, want, holding("first"))
			lists(t, r, nil, others(replica))
			for again := range 4 {
				addsNot(t, r, again, second, api.ErrQuorumTwice)
			}
			results(t, r, want, holding("first"))
		}
	}
}

// others are the three other replicas.
func others(replica int) []int {
	var l []int
	for other := range 4 {
		if other != replica {
			l = append(l, other)
		}
	}
	return l
}

// Each incarnation that is not 0 counts, and stands where its replica does.
func TestAddOfIncarnations(t *testing.T) {
	for at, inc := range edges {
		r := made(t, 24)
		var incs [4]uint32
		for replica := range 4 {
			incs[replica] = edges[(at+replica)%len(edges)]
			adds(t, r, replica, told(incs[replica], 2, "v"))
		}
		results(t, r, api.Item{Bucket: 24, Ver: 2, Incs: incs}, holding("v"))
		if incs[0] != inc {
			t.Errorf("%v does not begin with %d", incs, inc)
		}
	}
}
