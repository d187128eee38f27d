package quorum_test

import (
	"slices"
	"testing"

	"tontine/api"
	"tontine/quorum"
)

// heard is a call of Add that was given no error.
type heard struct {
	replica int
	a       api.Answer
}

// model is the chapter's words a second time: all answers in the order in which they came. What they come to is worked out anew each time.
type model struct {
	bucket int
	round  uint32
	heard  []heard
}

// of is a replica's answer, if it has one.
func (m *model) of(replica int) *api.Answer {
	for i := range m.heard {
		if m.heard[i].replica == replica {
			return &m.heard[i].a
		}
	}
	return nil
}

func (m *model) add(replica int, a api.Answer) api.Errno {
	switch {
	case !slices.Contains(everyone, replica) || a.Inc == 0:
		return api.ErrArg
	case a.Round != m.round:
		return api.ErrQuorumRound
	case m.of(replica) != nil:
		return api.ErrQuorumTwice
	}
	a.Data = slices.Clone(a.Data)
	m.heard = append(m.heard, heard{replica, a})
	return api.OK
}

// newest asks whether no answer has a greater version.
func (m *model) newest(ver uint32) bool {
	return !slices.ContainsFunc(m.heard, func(h heard) bool { return h.a.Ver > ver })
}

func (m *model) result() (api.Item, []api.Entry, api.Errno) {
	if len(m.heard) < enough {
		return api.Item{}, nil, api.ErrQuorumFew
	}
	i := api.Item{Bucket: m.bucket}
	for _, h := range m.heard {
		i.Incs[h.replica] = h.a.Inc
	}
	for _, replica := range everyone {
		if a := m.of(replica); a != nil && m.newest(a.Ver) {
			i.Ver = a.Ver
			return i, a.Data, api.OK
		}
	}
	panic("of three answers one is the newest")
}

func (m *model) missing() []int {
	return slices.DeleteFunc(slices.Clone(everyone), func(replica int) bool { return m.of(replica) != nil })
}

func (m *model) stale() []int {
	return slices.DeleteFunc(slices.Clone(everyone), func(replica int) bool {
		a := m.of(replica)
		return a == nil || m.newest(a.Ver)
	})
}

// twins are a reader and its model, which get the same calls and must answer the same.
type twins struct {
	t *testing.T
	r *quorum.Reader
	m *model
}

func twinsOf(t *testing.T, bucket int, round uint32) *twins {
	t.Helper()
	r, e := quorum.New(bucket, round)
	if e != api.OK {
		t.Fatalf("New(%d, %d): %d", bucket, round, e)
	}
	return &twins{t, r, &model{bucket: bucket, round: round}}
}

func (x *twins) add(replica int, a api.Answer) {
	x.t.Helper()
	if e, want := x.r.Add(replica, a), x.m.add(replica, a); e != want {
		x.t.Fatalf("Add(%d, %v): %d, want %d", replica, a, e, want)
	}
	x.looks()
}

// looks asks for all that can be asked without a change.
func (x *twins) looks() {
	x.t.Helper()
	i, l, e := x.r.Result()
	if wantI, wantL, wantE := x.m.result(); !sameItems(i, wantI) || !slices.Equal(l, wantL) || e != wantE {
		x.t.Fatalf("Result: %v, %v, %d, want %v, %v, %d behind %v", i, l, e, wantI, wantL, wantE, x.m.heard)
	}
	if l, want := x.r.Missing(), x.m.missing(); !slices.Equal(l, want) {
		x.t.Fatalf("Missing: %v, want %v behind %v", l, want, x.m.heard)
	}
	if l, want := x.r.Stale(), x.m.stale(); !slices.Equal(l, want) {
		x.t.Fatalf("Stale: %v, want %v behind %v", l, want, x.m.heard)
	}
}
