package draws_test

import (
	"math/big"
	"testing"

	"tontine/api"
	"tontine/draws"
)

// number is a number of its hexadecimal digits.
func number(digits string) *big.Int {
	x, ok := new(big.Int).SetString(digits, 16)
	if !ok {
		panic(digits)
	}
	return x
}

// whole is 2^64.
func whole() *big.Int { return number("10000000000000000") }

func of(x uint64) *big.Int { return new(big.Int).SetUint64(x) }

// model is the chapter's words a second time, in integers of unlimited size.
type model struct {
	state *big.Int
	taken int
}

func modelOf(seed uint64) *model { return &model{state: of(seed)} }

// folded is x XOR what is left of it when it is divided by 2^by.
func folded(x *big.Int, by int64) *big.Int {
	power := new(big.Int).Exp(big.NewInt(2), big.NewInt(by), nil)
	return new(big.Int).Xor(x, new(big.Int).Div(x, power))
}

// times is a product modulo 2^64.
func times(x, y *big.Int) *big.Int {
	p := new(big.Int).Mul(x, y)
	return p.Mod(p, whole())
}

// plus is a sum modulo 2^64.
func plus(x, y *big.Int) *big.Int {
	s := new(big.Int).Add(x, y)
	return s.Mod(s, whole())
}

func grown() *big.Int { return number("9e3779b97f4a7c15") }

func mixed(x *big.Int) *big.Int {
	x = times(folded(x, 30), number("bf58476d1ce4e5b9"))
	x = times(folded(x, 27), number("94d049bb133111eb"))
	return folded(x, 31)
}

func (m *model) next() *big.Int {
	m.state = plus(m.state, grown())
	m.taken++
	return mixed(m.state)
}

func (m *model) skip(n uint64) { m.state = plus(m.state, times(of(n), grown())) }

func (m *model) below(n int) (int, api.Errno) {
	if n <= 0 {
		return 0, api.ErrArg
	}
	p := new(big.Int).Mul(m.next(), big.NewInt(int64(n)))
	return int(p.Div(p, whole()).Int64()), api.OK
}

func (m *model) pick(weights []int) (int, api.Errno) {
	if len(weights) == 0 || len(weights) > 1000 {
		return 0, api.ErrArg
	}
	sum := 0
	for _, w := range weights {
		if w < 0 || w > 2147483647 {
			return 0, api.ErrArg
		}
		sum += w
	}
	x, e := m.below(sum)
	if e != api.OK {
		return 0, e
	}
	upTo := 0
	for i, w := range weights {
		if upTo += w; upTo > x {
			return i, api.OK
		}
	}
	panic("no weight")
}

func (m *model) order(n int) ([]int, api.Errno) {
	if n < 0 || n > 1000 {
		return nil, api.ErrArg
	}
	l := []int{}
	for i := 0; i < n; i++ {
		l = append(l, i)
	}
	for i := n - 1; i >= 1; i-- {
		j, _ := m.below(i + 1)
		was := l[i]
		l[i] = l[j]
		l[j] = was
	}
	return l, api.OK
}

func (m *model) fork(by uint64) *model {
	x := plus(m.state, times(of(by), grown()))
	// The complement of x has the bits that x lacks of 2^64 - 1.
	all := new(big.Int).Sub(whole(), big.NewInt(1))
	return &model{state: mixed(all.Sub(all, x))}
}

// unfolded is the number that folded makes x of.
func unfolded(x uint64, by int) uint64 {
	was := x
	for n := by; n < 64; n += by {
		was = x ^ was>>by
	}
	return was
}

// inverse is the number by which an odd one makes 1.
func inverse(x string) uint64 { return new(big.Int).ModInverse(number(x), whole()).Uint64() }

// before is the one state whose next number is x: the mix undone, step by step.
func before(x uint64) uint64 {
	x = unfolded(x, 31) * inverse("94d049bb133111eb")
	x = unfolded(x, 27) * inverse("bf58476d1ce4e5b9")
	return unfolded(x, 30) - grown().Uint64()
}

// stands asks a generator for its state.
func stands(t *testing.T, d *draws.Draws, want uint64) {
	t.Helper()
	if got := d.State(); got != want {
		t.Errorf("State: %#x, want %#x", got, want)
	}
}

// agrees asks a generator for the model's state.
func agrees(t *testing.T, d *draws.Draws, m *model) {
	t.Helper()
	stands(t, d, m.state.Uint64())
}
