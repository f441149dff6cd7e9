package vars_test

import (
	"math"
	"math/rand/v2"
	"slices"
	"testing"

	"census/api"
	"census/vars"
)

// in reports whether v is in s, as the chapter defines it.
func in(s api.Set, v int) bool {
	return v >= 1 && v <= 128 && s[(v-1)/64]>>((v-1)%64)&1 == 1
}

// collect returns the set of the variables for which f returns true.
func collect(f func(v int) bool) api.Set {
	var s api.Set
	for v := 1; v <= 128; v++ {
		if f(v) {
			s[(v-1)/64] |= 1 << ((v - 1) % 64)
		}
	}
	return s
}

// borders returns variables at the ends of the words and beside them.
func borders() []int { return []int{1, 2, 3, 32, 33, 62, 63, 64, 65, 66, 67, 96, 97, 126, 127, 128} }

// samples returns sets of many kinds.
func samples() []api.Set {
	full := api.Set{math.MaxUint64, math.MaxUint64}
	l := []api.Set{{}, full, {math.MaxUint64, 0}, {0, math.MaxUint64}, {math.MaxUint64, 1}, {1 << 63, 1}}
	for _, v := range borders() {
		l = append(l,
			collect(func(w int) bool { return w == v }),
			collect(func(w int) bool { return w != v }),
			collect(func(w int) bool { return w < v }),
			collect(func(w int) bool { return w > v }))
	}
	r := rand.New(rand.NewPCG(1, 2))
	for range 20 {
		a, b := api.Set{r.Uint64(), r.Uint64()}, api.Set{r.Uint64(), r.Uint64()}
		l = append(l, a, api.Set{a[0] & b[0], a[1] & b[1]}, api.Set{a[0] | b[0], a[1] | b[1]})
		l = append(l, collect(func(int) bool { return r.IntN(30) == 0 }))
	}
	return l
}

// numbers returns all variables, and numbers that are none: those near by, and some that a narrower type, or taking 1
// or 65 away, would turn into a variable.
func numbers() []int {
	l := []int{1000, -1000, 1 << 31, -1 << 31, 1<<8 + 1, 1<<16 + 1, math.MaxInt, math.MinInt, math.MaxInt32, math.MinInt32}
	for v := -130; v <= 330; v++ {
		l = append(l, v)
	}
	for d := range 130 {
		l = append(l, math.MaxInt-d, math.MinInt+d)
	}
	for _, k := range []int{32, 62, 63} {
		l = append(l, 1<<k+1, 1<<k+64, -1<<k+1, -1<<k+65)
	}
	return l
}

func TestOf(t *testing.T) { // P3.1
	r := rand.New(rand.NewPCG(3, 4))
	all := numbers()
	if s := vars.Of(all...); s != (api.Set{math.MaxUint64, math.MaxUint64}) {
		t.Error("all", s)
	}
	if vars.Of() != (api.Set{}) || vars.Of(nil...) != (api.Set{}) || vars.Of([]int{}...) != (api.Set{}) {
		t.Error("none")
	}
	for _, v := range all {
		if s := vars.Of(v); s != collect(func(w int) bool { return w == v }) {
			t.Error(v, s)
		}
	}
	for range 2000 {
		l := make([]int, r.IntN(20))
		for i := range l {
			l[i] = all[r.IntN(len(all))]
		}
		if len(l) > 0 {
			l = append(l, l[0])
		}
		before := slices.Clone(l)
		if s := vars.Of(l...); s != collect(func(v int) bool { return slices.Contains(before, v) }) {
			t.Error(before, s)
		}
		if !slices.Equal(l, before) {
			t.Error("the argument has changed", before, l)
		}
	}
}

func TestAll(t *testing.T) { // P3.1
	for _, n := range numbers() {
		if s := vars.All(n); s != collect(func(v int) bool { return v <= n }) {
			t.Error(n, s)
		}
	}
}

func TestOneVariable(t *testing.T) { // P3.2
	for _, s := range samples() {
		for _, v := range numbers() {
			if vars.Has(s, v) != in(s, v) {
				t.Error("Has", s, v)
			}
			if got := vars.With(s, v); got != collect(func(w int) bool { return w == v || in(s, w) }) {
				t.Error("With", s, v, got)
			}
			if got := vars.Without(s, v); got != collect(func(w int) bool { return w != v && in(s, w) }) {
				t.Error("Without", s, v, got)
			}
		}
	}
}

func TestTwoSets(t *testing.T) { // P3.3
	for _, a := range samples() {
		for _, b := range samples() {
			if got := vars.Union(a, b); got != collect(func(v int) bool { return in(a, v) || in(b, v) }) {
				t.Error("Union", a, b, got)
			}
			if got := vars.Cut(a, b); got != collect(func(v int) bool { return in(a, v) && in(b, v) }) {
				t.Error("Cut", a, b, got)
			}
			rest := collect(func(v int) bool { return in(a, v) && !in(b, v) })
			if got := vars.Minus(a, b); got != rest {
				t.Error("Minus", a, b, got)
			}
			if got := vars.Sub(a, b); got != (rest == api.Set{}) {
				t.Error("Sub", a, b, got)
			}
		}
	}
}

func TestSubOfParts(t *testing.T) { // P3.3
	for _, a := range samples() {
		for v := 1; v <= 128; v++ {
			less := collect(func(w int) bool { return w != v && in(a, w) })
			if !vars.Sub(less, a) || !vars.Sub(a, a) || vars.Sub(a, less) == in(a, v) {
				t.Error(a, v)
			}
		}
	}
}

func TestContents(t *testing.T) { // P3.4
	for _, s := range samples() {
		var want []int
		for v := 1; v <= 128; v++ {
			if in(s, v) {
				want = append(want, v)
			}
		}
		first := 0
		if len(want) > 0 {
			first = want[0]
		}
		if got := vars.List(s); !slices.Equal(got, want) {
			t.Error("List", s, got)
		}
		if got := vars.First(s); got != first {
			t.Error("First", s, got)
		}
		if got := vars.Len(s); got != len(want) {
			t.Error("Len", s, got)
		}
	}
}

func TestListIsNew(t *testing.T) { // P3.4, R1
	for _, s := range samples() {
		l, want := vars.List(s), vars.List(s)
		for i := range l {
			l[i] = -1
		}
		_ = append(l, -1)
		if got := vars.List(s); !slices.Equal(got, want) {
			t.Error(s, got, want)
		}
	}
}

// before reports whether a comes before b in the order of models, variable by variable.
func before(a, b api.Set) bool {
	for v := 1; v <= 128; v++ {
		if in(a, v) != in(b, v) {
			return in(b, v)
		}
	}
	return false
}

func TestLess(t *testing.T) { // P3.5
	for _, a := range samples() {
		for _, b := range samples() {
			if vars.Less(a, b) != before(a, b) {
				t.Error(a, b)
			}
		}
		for v := 1; v <= 128; v++ {
			without := collect(func(w int) bool { return w != v && in(a, w) })
			with := collect(func(w int) bool { return w == v || in(a, w) })
			if !vars.Less(without, with) || vars.Less(with, without) || vars.Less(with, with) {
				t.Error(a, v)
			}
		}
	}
}

// TestExamples has the examples of the chapter.
func TestExamples(t *testing.T) {
	full := uint64(math.MaxUint64)
	for i, x := range []struct{ got, want api.Set }{
		{vars.Of(1, 3, 0, -1, 129, 3), api.Set{5, 0}},
		{vars.Of(65), api.Set{0, 1}},
		{vars.All(65), api.Set{full, 1}},
		{vars.All(-1), api.Set{}},
		{vars.Without(vars.Of(1, 3), 1), vars.Of(3)},
		{vars.With(vars.Of(1), 129), vars.Of(1)},
		{vars.Minus(vars.Of(1, 2), vars.Of(2, 3)), vars.Of(1)},
	} {
		if x.got != x.want {
			t.Error(i, x.got, x.want)
		}
	}
	if l := vars.List(vars.Of(3, 128)); !slices.Equal(l, []int{3, 128}) {
		t.Error("List", l)
	}
	if vars.First(api.Set{}) != 0 || vars.Len(vars.All(128)) != 128 {
		t.Error("First or Len")
	}
	two, one, oneThree, oneTwo := vars.Of(2), vars.Of(1), vars.Of(1, 3), vars.Of(1, 2)
	if !vars.Less(two, one) || !vars.Less(one, oneThree) || !vars.Less(oneThree, oneTwo) || vars.Less(one, one) {
		t.Error("Less")
	}
}
