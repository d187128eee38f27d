package faildet_test

import (
	"math"
	"slices"
	"testing"

	"tontine/api"
	"tontine/faildet"
)

// scribble is what a caller may do to numbers that it was answered: a detector doesn't see it.
func scribble(l []int) {
	l = l[:cap(l)]
	for i := range l {
		l[i] = math.MinInt + i
	}
}

// smear is the same, for changes.
func smear(l []api.Change) {
	l = l[:cap(l)]
	for i := range l {
		l[i] = api.Change{Peer: math.MinInt + i, Bad: i%2 == 0}
	}
}

func TestPeersShareNoMemory(t *testing.T) {
	listsAreNew(t, (*faildet.Detector).Peers)
}

func TestSuspectsShareNoMemory(t *testing.T) {
	listsAreNew(t, func(d *faildet.Detector) []int { return d.Suspects(11) })
}

// listsAreNew asks twice, and spoils each of the lists.
func listsAreNew(t *testing.T, ask func(*faildet.Detector) []int) {
	t.Helper()
	d := full(t, 10, 12)
	first, second := ask(d), ask(d)
	want := slices.Clone(first)
	if len(want) != 12 {
		t.Fatalf("%v", want)
	}
	scribble(first)
	scribble(append(first, 1, 2, 3))
	if !slices.Equal(second, want) {
		t.Errorf("a list is %v behind a change of another", second)
	}
	if third := ask(d); !slices.Equal(third, want) {
		t.Errorf("a list is %v behind a change of another", third)
	}
	// What was answered stays as it was when the detector goes on.
	beats(t, d, 60, 11, api.OK)
	leaves(t, d, 20, api.OK)
	watches(t, d, 255, 11, api.OK)
	ask(d)
	if !slices.Equal(second, want) {
		t.Errorf("a list that was answered is %v now", second)
	}
	scribble(second)
	peersAre(t, d, 0, 40, 60, 80, 100, 120, 140, 160, 180, 200, 220, 255)
}

func TestChangesShareNoMemory(t *testing.T) {
	d := full(t, 10, 12)
	first := d.Changes(11)
	want := slices.Clone(first)
	second := d.Changes(10)
	if len(first) != 12 || len(second) != 12 {
		t.Fatalf("Changes: %v, %v", first, second)
	}
	smear(second)
	smear(append(second, second...))
	if !slices.Equal(first, want) {
		t.Errorf("what Changes answered is %v now", first)
	}
	smear(first)
	changes(t, d, 10)
	changes(t, d, 11, want...)
}
