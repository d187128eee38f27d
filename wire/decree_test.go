package wire_test

import (
	"math"
	"math/rand/v2"
	"strings"
	"testing"

	"tontine/api"
	"tontine/wire"
)

const decreeBytes = 13

func decreeValue(d api.Decree) string {
	return string(join(one(int(d.Kind), d.Node, d.By, d.Arc.From, d.Arc.Size), four(d.Count, d.Seen)))
}

// agrees holds a decree and its value against each other, both ways.
func agrees(t *testing.T, d api.Decree, value string) {
	t.Helper()
	if s, e := wire.EncodeDecree(d); s != value || e != api.OK {
		t.Errorf("%+v: % x, %d, want % x", d, s, e, value)
	}
	if got, e := wire.DecodeDecree(value); got != d || e != api.OK {
		t.Errorf("% x: %+v, %d, want %+v", value, got, e, d)
	}
}

func TestDecreesByHand(t *testing.T) {
	for _, c := range []struct {
		d     api.Decree
		value string
	}{
		{api.Decree{}, "00 00 00 00 00 00000000 00000000"},
		{api.Decree{Kind: api.DecreeRenew, Node: 3, Count: 0x01020304}, "01 03 00 00 00 04030201 00000000"},
		{api.Decree{Kind: api.DecreeMove, Node: 1, By: 2, Arc: api.Arc{From: 16, Size: 1}, Seen: 7}, "02 01 02 10 01 00000000 07000000"},
		{api.Decree{Kind: api.DecreeTake, Node: 4, By: 5, Arc: api.Arc{From: 63, Size: 64}, Seen: 0x05060708}, "03 04 05 3f 40 00000000 08070605"},
		{api.Decree{Kind: api.DecreeJoin, Node: 11}, "04 0b 00 00 00 00000000 00000000"},
		{api.Decree{Kind: api.DecreeLeave, Node: 255, By: 254, Arc: api.Arc{From: 9, Size: 8}, Count: math.MaxUint32, Seen: math.MaxUint32}, "05 ff fe 09 08 ffffffff ffffffff"},
	} {
		agrees(t, c.d, string(raw(c.value)))
	}
}

func TestDecreesAtTheirBounds(t *testing.T) {
	full := api.Decree{Kind: api.DecreeTake, Node: 1, By: 2, Arc: api.Arc{From: 3, Size: 4}, Count: 5, Seen: 6}
	for x := range 256 {
		for _, d := range []api.Decree{
			{Kind: api.DecreeKind(min(x, 5))},
			{Node: x}, {By: x}, {Node: x, By: 255 - x},
			{Arc: api.Arc{From: min(x, 63)}}, {Arc: api.Arc{Size: min(x, 64)}}, {Arc: api.Arc{From: min(x, 63), Size: min(x, 64)}},
			{Count: 1<<24*uint32(x) + 1}, {Seen: 1<<24*uint32(x) + 1}, {Count: uint32(x) << 8}, {Seen: uint32(x) << 16},
		} {
			agrees(t, d, decreeValue(d))
		}
	}
	agrees(t, full, decreeValue(full))
}

func TestDecreesBeyondTheirBounds(t *testing.T) {
	full := api.Decree{Kind: api.DecreeTake, Node: 1, By: 2, Arc: api.Arc{From: 3, Size: 4}, Count: 5, Seen: 6}
	for _, c := range []struct {
		what string
		most int
		at   func(*api.Decree, int)
	}{
		{"Kind", 5, func(d *api.Decree, v int) { d.Kind = api.DecreeKind(v) }},
		{"Node", 255, func(d *api.Decree, v int) { d.Node = v }},
		{"By", 255, func(d *api.Decree, v int) { d.By = v }},
		{"Arc.From", 63, func(d *api.Decree, v int) { d.Arc.From = v }},
		{"Arc.Size", 64, func(d *api.Decree, v int) { d.Arc.Size = v }},
	} {
		for _, v := range outside(c.most) {
			for _, d := range []api.Decree{{}, full} {
				c.at(&d, v)
				if s, e := wire.EncodeDecree(d); s != "" || e != api.ErrWireField {
					t.Errorf("%s %d: %q, %d", c.what, v, s, e)
				}
			}
		}
	}
}

// undecreed holds what DecodeDecree answers to a string that is no decree's value.
func undecreed(t *testing.T, s string) {
	t.Helper()
	if d, e := wire.DecodeDecree(s); d != (api.Decree{}) || e != api.ErrWireForm {
		t.Errorf("%d bytes, % x: %+v, %d", len(s), s[:min(len(s), 20)], d, e)
	}
}

func TestValuesOfAnotherLength(t *testing.T) {
	right := decreeValue(api.Decree{Kind: api.DecreeTake, Node: 1, By: 2, Arc: api.Arc{From: 3, Size: 4}, Count: 5, Seen: 6})
	zeros := strings.Repeat("\x00", 1<<20)
	for n := range 256 {
		if n != decreeBytes {
			undecreed(t, zeros[:n])
			undecreed(t, (right + zeros)[:n])
		}
	}
	undecreed(t, zeros)
	undecreed(t, right+right)
}

func TestValuesOfNoDecree(t *testing.T) {
	for _, right := range []string{strings.Repeat("\x00", decreeBytes), decreeValue(api.Decree{Kind: 5, Node: 255, By: 255, Arc: api.Arc{From: 63, Size: 64}, Count: 9, Seen: 9})} {
		for at, most := range map[int]int{0: 5, 3: 63, 4: 64} {
			for x := most + 1; x < 256; x++ {
				b := []byte(right)
				b[at] = byte(x)
				undecreed(t, string(b))
			}
		}
	}
}

// Any value either is that of one decree, or of none.
func TestAnyValues(t *testing.T) {
	r := rand.New(rand.NewPCG(4, 13))
	decrees := 0
	for range 20000 {
		b := make([]byte, decreeBytes)
		for i := range b {
			b[i] = byte(r.Uint32()) >> r.IntN(8)
		}
		if _, is := scan(b, "decree"); !is {
			undecreed(t, string(b))
			continue
		}
		decrees++
		d, e := wire.DecodeDecree(string(b))
		if e != api.OK {
			t.Fatalf("% x: %d", b, e)
		}
		agrees(t, d, string(b))
		if decreeValue(d) != string(b) {
			t.Fatalf("% x: %+v", b, d)
		}
	}
	if decrees < 1000 {
		t.Errorf("%d decrees", decrees)
	}
}

// A decree's value goes into messages as it is.
func TestDecreeInAMessage(t *testing.T) {
	s, _ := wire.EncodeDecree(api.Decree{Kind: api.DecreeRenew, Node: 255, Count: math.MaxUint32, Seen: math.MaxUint32})
	for _, k := range []api.MsgKind{api.MsgAccept, api.MsgAccepted, api.MsgLearn} {
		m := api.Msg{Kind: k, Value: s}
		encodes(t, m, bodyOf(m))
		decodes(t, framed(bodyOf(m)), m)
	}
}
