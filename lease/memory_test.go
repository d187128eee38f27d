package lease_test

import (
	"slices"
	"testing"

	"tontine/api"
	"tontine/lease"
)

// What Owned answers is nobody else's: who writes to it changes no other answer, nor what is behind its length.
func TestOwnedIsNewMemory(t *testing.T) {
	x := withOwners(t, 0, 1, 0, 1, 0)
	want := slices.Clone(lease.Owned(x, 0))
	for range 3 {
		one, two := lease.Owned(x, 0), lease.Owned(x, 0)
		for i := range one {
			one[i] = api.Arc{From: -7, Size: -7}
		}
		one = append(one[:0:cap(one)], make([]api.Arc, cap(one))...)
		if !slices.Equal(two, want) || len(one) < len(want) {
			t.Fatalf("Owned: %v behind what was written to another answer, want %v", two, want)
		}
		if got := lease.Owned(x, 0); !slices.Equal(got, want) {
			t.Fatalf("Owned: %v, want %v", got, want)
		}
	}
}

// A table is a value: what is written to one that was answered changes no other one.
func TestTablesAreApart(t *testing.T) {
	x := made(t, 4)
	y := applied(t, x, take(1, 0, 0, 1, 0))
	was, behind := x, y
	z, e := lease.Apply(y, renew(9, 1))
	if e != api.ErrLeaseMember || z != y {
		t.Fatalf("Apply: %v, %d", z, e)
	}
	z.Owner[3], z.Inc[4], z.Member[5], z.Renewed[6], z.Version = 9, 9, true, 9, 9
	if x != was || y != behind {
		t.Error("a table changed with another one")
	}
	if again := made(t, 4); again != was {
		t.Errorf("New: %v, want %v", again, was)
	}
}

// Nothing is kept from call to call: decrees on other tables do not count.
func TestCallsAreApart(t *testing.T) {
	x, other := made(t, 4), made(t, 12)
	for count := range uint32(20) {
		other = applied(t, other, renew(0, count+1))
		other = applied(t, other, take(1, 0, 3, 1, count+1))
		other = applied(t, other, move(0, 1, 3, 1))
		becomes(t, x, renew(0, 1), func(y *api.Table) { y.Renewed[0] = 1 })
		becomes(t, x, take(1, 0, 9, 1, 0), func(y *api.Table) { y.Owner[9], y.Inc[9] = 1, 2 })
		refused(t, x, renew(0, 2), api.ErrLeaseCount)
	}
}

// Two that apply at once do not disturb each other.
func TestCallsAtOnce(t *testing.T) {
	x := made(t, 8)
	want := applied(t, x, take(1, 0, 0, 8, 0))
	done := make(chan api.Table)
	for range 8 {
		go func() {
			y := x
			for range 100 {
				y, _ = lease.Apply(x, take(1, 0, 0, 8, 0))
			}
			done <- y
		}()
	}
	for range 8 {
		if y := <-done; y != want {
			t.Errorf("Apply: %v, want %v", y, want)
		}
	}
}

// Nothing is promised of a table that New and Apply did not make, but that it does not panic.
func TestTablesThatNobodyMade(t *testing.T) {
	var zero api.Table
	strange := api.Table{Version: greatest >> 32}
	for p := range places {
		strange.Owner[p] = wrongNodes[p%len(wrongNodes)]
	}
	for node := range mostNodes {
		strange.Member[node], strange.Renewed[node] = true, greatest>>32
	}
	for _, x := range []api.Table{zero, strange} {
		for _, node := range append([]int{0, 1, 11}, wrongNodes...) {
			lease.Owned(x, node)
			for _, d := range []api.Decree{renew(node, 0), renew(node, 1), join(node), leave(node), move(node, 0, 0, 64), move(0, node, 0, 64), take(node, 0, 0, 1, 0), take(0, node, 9, 9, 9)} {
				if y, e := lease.Apply(x, d); e != api.OK && y != x {
					t.Errorf("Apply of %+v to %v: %v, %d", d, x, y, e)
				}
			}
		}
	}
}
