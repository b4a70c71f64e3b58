package stacks_test

import (
	"math"
	"slices"
	"testing"

	"gansey/api"
	"gansey/stacks"
)

const (
	maxNeedle = 40
	maxStack  = 4
	maxLoops  = 2048
)

var none = api.Needle{}

func front(at int) api.Needle { return api.Needle{Bed: api.Front, At: at} }

func back(at int) api.Needle { return api.Needle{Bed: api.Back, At: at} }

// id returns the name y.n of the chapter's examples.
func id(y uint8, n int) api.Id { return api.Id{Yarn: y, N: n} }

func ids(l ...api.Id) []api.Id { return l }

// run returns different names, from the number k on.
func run(k, n int) []api.Id {
	var l []api.Id
	for i := k; i < k+n; i++ {
		l = append(l, id(uint8(1+i/maxLoops%6), i%maxLoops))
	}
	return l
}

// example returns the beds of the chapter's examples.
func example() stacks.Beds {
	return stacks.Beds{Front: [][]api.Id{nil, ids(id(1, 0), id(1, 1))}, Back: [][]api.Id{nil, ids(id(2, 0))}}
}

// fullBeds returns beds on which there is no room.
func fullBeds() stacks.Beds {
	var b stacks.Beds
	for i := range maxNeedle {
		b.Front = append(b.Front, run(maxStack*i, maxStack))
		b.Back = append(b.Back, run(3*maxLoops+maxStack*i, maxStack))
	}
	return b
}

// extremes are numbers that neither a needle nor a loop can have.
var extremes = []int{
	math.MinInt, math.MinInt + 1, math.MinInt32, -1 << 16, -257, -256, -1,
	1 << 16, 1<<16 + 1, math.MaxInt32, 1 << 32, 1<<32 + 1, 1 << 62, math.MaxInt - 1, math.MaxInt,
}

func allNeedles() []api.Needle {
	var l []api.Needle
	for _, bed := range []api.Bed{api.Front, api.Back} {
		for at := 1; at <= maxNeedle; at++ {
			l = append(l, api.Needle{Bed: bed, At: at})
		}
	}
	return l
}

func wrongNeedles() []api.Needle {
	l := []api.Needle{front(0), back(0), front(41), back(41), front(42), back(80)}
	for _, at := range extremes {
		l = append(l, front(at), back(at))
	}
	for bed := 2; bed <= 255; bed++ {
		l = append(l, api.Needle{Bed: api.Bed(bed)}, api.Needle{Bed: api.Bed(bed), At: 1}, api.Needle{Bed: api.Bed(bed), At: 2}, api.Needle{Bed: api.Bed(bed), At: 40})
	}
	return l
}

func wrongNames() []api.Id {
	l := []api.Id{{}, id(0, 1), id(0, 2047), id(1, 2048), id(6, 2048), id(1, 4096)}
	for y := 7; y <= 255; y++ {
		l = append(l, id(uint8(y), 0), id(uint8(y), 2047))
	}
	for _, n := range extremes {
		l = append(l, id(1, n), id(6, n))
	}
	return l
}

// put returns beds in which stacks stand on needles, also on those behind the last one; it leaves b as it is.
func put(b stacks.Beds, n api.Needle, l []api.Id) stacks.Beds {
	out := stacks.Beds{Front: slices.Clone(b.Front), Back: slices.Clone(b.Back)}
	bed := &out.Front
	if n.Bed == api.Back {
		bed = &out.Back
	}
	for len(*bed) < n.At {
		*bed = append(*bed, nil)
	}
	(*bed)[n.At-1] = l
	return out
}

// on returns beds on which one needle holds something.
func on(n api.Needle, l ...api.Id) stacks.Beds { return put(stacks.Beds{}, n, l) }

// both returns beds on which two needles hold something.
func both(n api.Needle, l []api.Id, m api.Needle, k []api.Id) stacks.Beds {
	return put(put(stacks.Beds{}, n, l), m, k)
}

// listed returns what a bed holds, as numbers of needles and names: empty stacks do not show.
func listed(bed [][]api.Id) (l []struct {
	at int
	id api.Id
}) {
	for i, s := range bed {
		for _, name := range s {
			l = append(l, struct {
				at int
				id api.Id
			}{i + 1, name})
		}
	}
	return l
}

func equal(a, b stacks.Beds) bool {
	return slices.Equal(listed(a.Front), listed(b.Front)) && slices.Equal(listed(a.Back), listed(b.Back))
}

// names returns the names of all loops, sorted.
func names(b stacks.Beds) []api.Id {
	l := slices.Concat(slices.Concat(b.Front...), slices.Concat(b.Back...))
	slices.SortFunc(l, func(p, q api.Id) int {
		if p.Yarn != q.Yarn {
			return int(p.Yarn) - int(q.Yarn)
		}
		return p.N - q.N
	})
	return l
}

// expectBeds checks a result: with an error it is the zero value; otherwise it is short, and its slices have no room behind them.
func expectBeds(t *testing.T, what string, got stacks.Beds, e api.Errno, want stacks.Beds, we api.Errno) {
	t.Helper()
	if e != we || !equal(got, want) {
		t.Errorf("%s = %v, %d, expected %v, %d", what, got, e, want, we)
	}
	for _, bed := range [][][]api.Id{got.Front, got.Back} {
		if len(bed) != cap(bed) || len(bed) > 0 && len(bed[len(bed)-1]) == 0 {
			t.Errorf("%s: %d stacks with room for %d, the last one of %v", what, len(bed), cap(bed), bed)
		}
		for _, l := range bed {
			expectTight(t, what, l)
		}
	}
}

// expectTight checks R4: the capacity of what is returned.
func expectTight(t *testing.T, what string, l []api.Id) {
	t.Helper()
	if len(l) != cap(l) {
		t.Errorf("%s: length %d, capacity %d", what, len(l), cap(l))
	}
}

func expectCheck(t *testing.T, b stacks.Beds, want api.Errno) {
	t.Helper()
	if e := stacks.Check(b); e != want {
		t.Errorf("Check(%v) = %d, expected %d", b, e, want)
	}
}

func expectSame(t *testing.T, a, b stacks.Beds, want bool) {
	t.Helper()
	if stacks.Same(a, b) != want || stacks.Same(b, a) != want {
		t.Errorf("Same of %v and %v: %v, and %v, expected %v", a, b, stacks.Same(a, b), stacks.Same(b, a), want)
	}
}

func expectAt(t *testing.T, b stacks.Beds, n api.Needle, want []api.Id) {
	t.Helper()
	got := stacks.At(b, n)
	if !slices.Equal(got, want) {
		t.Errorf("At(%v, %v) = %v, expected %v", b, n, got, want)
	}
	expectTight(t, "At", got)
}

func expectFind(t *testing.T, b stacks.Beds, name api.Id, want api.Needle, we api.Errno) {
	t.Helper()
	if n, e := stacks.Find(b, name); n != want || e != we {
		t.Errorf("Find(%v, %v) = %v, %d, expected %v, %d", b, name, n, e, want, we)
	}
}

func expectCount(t *testing.T, b stacks.Beds, want int) {
	t.Helper()
	if n := stacks.Count(b); n != want {
		t.Errorf("Count(%v) = %d, expected %d", b, n, want)
	}
}

func expectSet(t *testing.T, b stacks.Beds, n api.Needle, l []api.Id, want stacks.Beds, we api.Errno) {
	t.Helper()
	got, e := stacks.Set(b, n, l)
	expectBeds(t, "Set", got, e, want, we)
}

func expectJoin(t *testing.T, b stacks.Beds, from, to api.Needle, want stacks.Beds, we api.Errno) {
	t.Helper()
	got, e := stacks.Join(b, from, to)
	expectBeds(t, "Join", got, e, want, we)
}

// eachBeds visits beds with three loops, or fewer, on four needles, in all orders.
func eachBeds(visit func(stacks.Beds)) {
	some := []api.Needle{front(1), front(2), back(1), back(2)}
	three := ids(id(1, 0), id(1, 1), id(2, 0))
	orders := [][]int{{0, 1, 2}, {0, 2, 1}, {1, 0, 2}, {1, 2, 0}, {2, 0, 1}, {2, 1, 0}}
	for _, order := range orders {
		for code := range 125 {
			var b stacks.Beds
			for k, rest := 0, code; k < 3; k, rest = k+1, rest/5 {
				if rest%5 < 4 {
					n := some[rest%5]
					b = put(b, n, append(slices.Clone(held(b, n)), three[order[k]]))
				}
			}
			visit(b)
		}
	}
}

// held returns what a needle holds.
func held(b stacks.Beds, n api.Needle) []api.Id {
	bed := b.Front
	if n.Bed == api.Back {
		bed = b.Back
	}
	if n.At > len(bed) {
		return nil
	}
	return bed[n.At-1]
}

// someNeedles are those of eachBeds, and one behind them on each bed.
func someNeedles() []api.Needle {
	return []api.Needle{front(1), front(2), front(3), back(1), back(2), back(3)}
}

// The examples of the chapter.
func TestExamples(t *testing.T) {
	b := example()
	expectAt(t, b, front(2), ids(id(1, 0), id(1, 1)))
	expectAt(t, b, front(1), nil)
	expectAt(t, b, back(3), nil)
	expectCount(t, b, 3)
	expectFind(t, b, id(2, 0), back(2), api.OK)
	expectJoin(t, b, front(2), back(2), on(back(2), id(2, 0), id(1, 0), id(1, 1)), api.OK)
	expectJoin(t, b, back(2), front(2), on(front(2), id(2, 0), id(1, 0), id(1, 1)), api.OK)
	expectJoin(t, b, front(1), back(1), stacks.Beds{}, api.ErrEmpty)
	expectJoin(t, b, front(2), front(3), stacks.Beds{}, api.ErrArg)
	expectSet(t, b, front(1), ids(id(2, 0)), stacks.Beds{}, api.ErrThere)
	expectSet(t, b, front(2), ids(id(1, 1)), both(front(2), ids(id(1, 1)), back(2), ids(id(2, 0))), api.OK)
	fewer, _ := stacks.Set(b, front(2), ids(id(1, 1)))
	expectCount(t, fewer, 2)
}

// P3.1
func TestCheckValid(t *testing.T) {
	for _, b := range []stacks.Beds{
		{}, {Front: [][]api.Id{}, Back: [][]api.Id{}}, {Front: make([][]api.Id, maxNeedle), Back: make([][]api.Id, maxNeedle)},
		{Front: [][]api.Id{{}, nil, {}}}, example(), fullBeds(),
		on(front(1), id(1, 0)), on(back(40), id(6, 2047)), on(front(7), run(0, maxStack)...),
		both(front(1), ids(id(1, 0)), back(1), ids(id(2, 0))), both(front(1), ids(id(1, 0)), front(2), ids(id(1, 1))),
	} {
		expectCheck(t, b, api.OK)
	}
	eachBeds(func(b stacks.Beds) { expectCheck(t, b, api.OK) })
	for y := uint8(1); y <= 6; y++ {
		for n := range maxLoops {
			expectCheck(t, on(front(3), id(y, n)), api.OK)
		}
	}
}

// P3.1: 40 stacks of a bed, and 4 loops of a stack, and no more, also of stacks that are empty.
func TestCheckFull(t *testing.T) {
	for _, n := range allNeedles() {
		expectCheck(t, on(n, run(0, maxStack)...), api.OK)
		expectCheck(t, on(n, run(0, maxStack+1)...), api.ErrFull)
		expectCheck(t, put(fullBeds(), n, run(5*maxLoops, maxStack+1)), api.ErrFull)
	}
	for _, stacked := range []int{41, 42, 80, 1000} {
		expectCheck(t, stacks.Beds{Front: make([][]api.Id, stacked)}, api.ErrFull)
		expectCheck(t, stacks.Beds{Back: make([][]api.Id, stacked)}, api.ErrFull)
	}
	expectCheck(t, on(front(41), id(1, 0)), api.ErrFull)
	expectCheck(t, on(back(41), id(1, 0)), api.ErrFull)
	expectCheck(t, on(back(1), run(0, 100000)...), api.ErrFull)
	expectCheck(t, stacks.Beds{Front: make([][]api.Id, 100000)}, api.ErrFull)
}

// P3.1, R3
func TestCheckNames(t *testing.T) {
	for _, name := range wrongNames() {
		expectCheck(t, on(front(1), name), api.ErrArg)
		expectCheck(t, on(back(40), name), api.ErrArg)
		expectCheck(t, on(front(2), id(1, 0), name), api.ErrArg)
		expectCheck(t, on(back(2), name, id(1, 0)), api.ErrArg)
		expectCheck(t, put(example(), back(9), run(10, 3)), api.OK)
		expectCheck(t, put(example(), back(9), append(run(10, 3), name)), api.ErrArg)
	}
}

// P3.1: on one needle, on two of a bed, and on both beds.
func TestCheckThere(t *testing.T) {
	expectCheck(t, on(front(1), id(1, 0), id(1, 0)), api.ErrThere)
	expectCheck(t, on(back(1), id(1, 0), id(1, 1), id(1, 0)), api.ErrThere)
	for _, n := range allNeedles() {
		for _, m := range allNeedles() {
			if n != m {
				expectCheck(t, both(n, ids(id(3, 7)), m, ids(id(3, 8), id(3, 7))), api.ErrThere)
				expectCheck(t, both(n, ids(id(3, 7)), m, ids(id(3, 8), id(4, 7))), api.OK)
			}
		}
	}
}

// P3.1, R2: too many is looked for in all stacks first, then names, then loops that are there twice.
func TestCheckOrder(t *testing.T) {
	full, wrong, double := run(0, maxStack+1), ids(id(5, 0), id(7, 0)), ids(id(4, 1), id(4, 1))
	for _, n := range []api.Needle{front(1), front(5), back(1), back(40)} {
		for _, m := range []api.Needle{front(2), front(40), back(2), back(7)} {
			expectCheck(t, both(n, full, m, wrong), api.ErrFull)
			expectCheck(t, both(n, full, m, double), api.ErrFull)
			expectCheck(t, both(n, wrong, m, full), api.ErrFull)
			expectCheck(t, both(n, double, m, full), api.ErrFull)
			expectCheck(t, both(n, wrong, m, double), api.ErrArg)
			expectCheck(t, both(n, double, m, wrong), api.ErrArg)
		}
		expectCheck(t, put(on(n, wrong...), front(41), nil), api.ErrFull)
		expectCheck(t, put(on(n, double...), back(41), nil), api.ErrFull)
	}
	expectCheck(t, on(front(1), id(0, 0), id(0, 0)), api.ErrArg)
	expectCheck(t, on(front(1), slices.Repeat(ids(id(0, 0)), maxStack+1)...), api.ErrFull)
}

// P3.1: the same loops on the same needles, in the same order.
func TestSame(t *testing.T) {
	expectSame(t, example(), example(), true)
	expectSame(t, fullBeds(), fullBeds(), true)
	expectSame(t, example(), stacks.Beds{}, false)
	expectSame(t, on(front(1), id(1, 0)), on(back(1), id(1, 0)), false)
	expectSame(t, on(front(1), id(1, 0)), on(front(2), id(1, 0)), false)
	expectSame(t, on(front(1), id(1, 0)), on(front(1), id(2, 0)), false)
	expectSame(t, on(front(1), id(1, 0)), on(front(1), id(1, 1)), false)
	expectSame(t, on(back(1), id(1, 0), id(1, 1)), on(back(1), id(1, 1), id(1, 0)), false)
	expectSame(t, on(back(1), id(1, 0), id(1, 1)), on(back(1), id(1, 0)), false)
	expectSame(t, both(front(1), ids(id(1, 0)), front(2), ids(id(1, 1))), on(front(1), id(1, 0), id(1, 1)), false)
	var all []stacks.Beds
	eachBeds(func(b stacks.Beds) { all = append(all, b) })
	for _, a := range all {
		for _, b := range all {
			if stacks.Same(a, b) != equal(a, b) {
				t.Fatalf("Same(%v, %v) = %v", a, b, stacks.Same(a, b))
			}
		}
	}
}

// P3.1, R3: needles behind the last element hold nothing, like those with an empty stack.
func TestSameBehindTheLast(t *testing.T) {
	expectSame(t, stacks.Beds{}, stacks.Beds{Front: [][]api.Id{}, Back: make([][]api.Id, 3)}, true)
	expectSame(t, stacks.Beds{}, stacks.Beds{Front: [][]api.Id{{}, {}}, Back: make([][]api.Id, 3000)}, true)
	long := put(put(example(), front(9), nil), back(41), []api.Id{})
	expectSame(t, example(), long, true)
	expectSame(t, long, put(example(), front(9), ids(id(3, 0))), false)
	expectSame(t, example(), put(example(), back(3), ids(id(3, 0))), false)
}

// P3.1: it accepts all beds, and compares all of their stacks.
func TestSameOfWrongBeds(t *testing.T) {
	for _, at := range []int{40, 41, 42, 1000} {
		for _, n := range []api.Needle{front(at), back(at)} {
			b := put(example(), n, ids(id(3, 0), id(3, 0)))
			expectSame(t, b, put(example(), n, ids(id(3, 0), id(3, 0))), true)
			expectSame(t, b, put(example(), n, ids(id(3, 0))), false)
			expectSame(t, b, put(example(), n, ids(id(3, 0), id(3, 1))), false)
			expectSame(t, b, example(), false)
			expectSame(t, b, put(example(), api.Needle{Bed: n.Bed, At: at + 1}, ids(id(3, 0), id(3, 0))), false)
		}
	}
	for _, name := range wrongNames() {
		expectSame(t, on(front(1), name), on(front(1), name), true)
		expectSame(t, on(front(1), name), on(front(1), id(1, 0)), false)
		expectSame(t, on(front(1), name), stacks.Beds{}, false)
	}
	expectSame(t, on(back(1), run(0, 5000)...), on(back(1), run(0, 5000)...), true)
	expectSame(t, on(back(1), run(0, 5000)...), on(back(1), run(0, 4999)...), false)
}

// P3.2
func TestAt(t *testing.T) {
	b := fullBeds()
	for i := range maxNeedle {
		expectAt(t, b, front(i+1), b.Front[i])
		expectAt(t, b, back(i+1), b.Back[i])
	}
	for _, n := range allNeedles() {
		expectAt(t, stacks.Beds{}, n, nil)
		for _, m := range allNeedles() {
			if n == m {
				expectAt(t, on(n, id(1, 0), id(2, 0)), m, ids(id(1, 0), id(2, 0)))
			} else {
				expectAt(t, on(n, id(1, 0), id(2, 0)), m, nil)
			}
		}
	}
}

// P3.2, R3: needles that are not valid, and beds that are not.
func TestAtInvalid(t *testing.T) {
	long := put(put(fullBeds(), front(45), run(9000, 2)), back(45), run(9100, 2))
	for _, n := range wrongNeedles() {
		expectAt(t, stacks.Beds{}, n, nil)
		expectAt(t, fullBeds(), n, nil)
		expectAt(t, long, n, nil)
	}
	expectAt(t, long, front(45), nil)
	expectAt(t, long, back(45), nil)
	expectAt(t, long, back(40), long.Back[39])
	for _, size := range []int{5, 9, 17, 33, 65, 100, 1000, 5000} {
		expectAt(t, on(front(2), run(0, size)...), front(2), run(0, size))
	}
	expectAt(t, on(back(2), id(0, -1), id(0, -1)), back(2), ids(id(0, -1), id(0, -1)))
}

// P3.2
func TestFind(t *testing.T) {
	b := fullBeds()
	for i := range maxNeedle {
		for k := range maxStack {
			expectFind(t, b, b.Front[i][k], front(i+1), api.OK)
			expectFind(t, b, b.Back[i][k], back(i+1), api.OK)
		}
	}
	for _, name := range append(wrongNames(), id(6, 2047)) {
		expectFind(t, b, name, none, api.ErrNone)
		expectFind(t, stacks.Beds{}, name, none, api.ErrNone)
	}
	expectFind(t, example(), id(1, 1), front(2), api.OK)
	expectFind(t, example(), id(2, 1), none, api.ErrNone)
}

// P3.2: the front bed first, then from the left.
func TestFindFirst(t *testing.T) {
	for _, n := range allNeedles() {
		for _, m := range allNeedles() {
			first := n
			if m.Bed < n.Bed || m.Bed == n.Bed && m.At < n.At {
				first = m
			}
			expectFind(t, both(n, ids(id(1, 0)), m, ids(id(1, 1), id(1, 0))), id(1, 0), first, api.OK)
		}
	}
}

// P3.2: it accepts all beds; needles behind MaxNeedle do not count.
func TestFindInWrongBeds(t *testing.T) {
	for _, at := range []int{41, 42, 1000} {
		expectFind(t, on(front(at), id(1, 0)), id(1, 0), none, api.ErrNone)
		expectFind(t, on(back(at), id(1, 0)), id(1, 0), none, api.ErrNone)
		expectFind(t, both(front(at), ids(id(1, 0)), back(40), ids(id(1, 0))), id(1, 0), back(40), api.OK)
		expectFind(t, both(front(at), nil, front(40), ids(id(1, 0))), id(1, 0), front(40), api.OK)
	}
	for _, name := range wrongNames() {
		expectFind(t, on(back(3), id(1, 0), name), name, back(3), api.OK)
	}
	expectFind(t, on(front(3), run(0, 500)...), id(1, 499), front(3), api.OK)
}

// P3.2: a loop that is there twice counts twice; needles behind MaxNeedle do not count.
func TestCount(t *testing.T) {
	expectCount(t, stacks.Beds{}, 0)
	expectCount(t, stacks.Beds{Front: make([][]api.Id, 1000), Back: [][]api.Id{{}, {}}}, 0)
	expectCount(t, fullBeds(), 320)
	expectCount(t, on(front(1), id(1, 0), id(1, 0)), 2)
	expectCount(t, both(front(1), ids(id(1, 0)), back(40), ids(id(1, 0))), 2)
	expectCount(t, on(back(2), id(0, -1), id(9, 9999)), 2)
	expectCount(t, on(back(2), run(0, 5000)...), 5000)
	for _, at := range []int{41, 42, 1000} {
		expectCount(t, on(front(at), id(1, 0)), 0)
		expectCount(t, on(back(at), id(1, 0)), 0)
		expectCount(t, put(put(fullBeds(), front(at), ids(id(6, 0))), back(at), ids(id(6, 1))), 320)
	}
	for _, n := range allNeedles() {
		for size := range maxStack + 1 {
			expectCount(t, on(n, run(0, size)...), size)
		}
	}
}

// P3.3: on every needle, also on those behind the last element.
func TestSet(t *testing.T) {
	for _, n := range allNeedles() {
		for size := range maxStack + 1 {
			l := run(5*maxLoops, size)
			expectSet(t, stacks.Beds{}, n, l, on(n, l...), api.OK)
			expectSet(t, example(), n, l, put(example(), n, l), api.OK)
			expectSet(t, fullBeds(), n, l, put(fullBeds(), n, l), api.OK)
			expectSet(t, on(n, run(0, maxStack)...), n, l, on(n, l...), api.OK)
		}
	}
}

// P3.3: the needle's own loops may be among the new ones, in any order.
func TestSetOwnLoops(t *testing.T) {
	b := put(example(), front(2), run(0, maxStack))
	other := ids(id(1, 3), id(5, 0), id(1, 0), id(1, 1))
	expectSet(t, b, front(2), other, put(b, front(2), other), api.OK)
	expectSet(t, b, front(2), run(0, maxStack), b, api.OK)
	expectSet(t, b, front(2), nil, put(b, front(2), nil), api.OK)
	expectSet(t, b, front(2), []api.Id{}, put(b, front(2), nil), api.OK)
}

// P3.3, 'short': empty stacks at the ends of both beds are not returned, wherever they come from.
func TestSetShort(t *testing.T) {
	long := put(put(example(), front(40), nil), back(40), []api.Id{})
	expectSet(t, long, front(5), nil, example(), api.OK)
	expectSet(t, long, back(1), ids(id(3, 0)), put(example(), back(1), ids(id(3, 0))), api.OK)
	expectSet(t, example(), front(2), nil, on(back(2), id(2, 0)), api.OK)
	expectSet(t, example(), back(2), nil, on(front(2), id(1, 0), id(1, 1)), api.OK)
	for _, n := range allNeedles() {
		expectSet(t, stacks.Beds{}, n, nil, stacks.Beds{}, api.OK)
		expectSet(t, on(n, id(1, 0)), n, nil, stacks.Beds{}, api.OK)
	}
}

// wrongBeds returns beds with an error, and the error.
func wrongBeds() map[api.Errno][]stacks.Beds {
	return map[api.Errno][]stacks.Beds{
		api.ErrFull:  {on(front(1), run(0, maxStack+1)...), put(example(), front(41), nil), put(example(), back(41), ids(id(3, 0))), put(example(), back(40), run(10, 5))},
		api.ErrArg:   {on(front(1), id(0, 0)), put(example(), back(9), ids(id(3, 0), id(1, 2048))), put(example(), front(9), ids(id(7, 0), id(7, 0)))},
		api.ErrThere: {on(front(1), id(1, 0), id(1, 0)), put(example(), back(40), ids(id(1, 1))), put(example(), front(1), ids(id(2, 0)))},
	}
}

// P3.3, P3.4: the error of Check comes first, whatever else is wrong.
func TestCheckComesFirst(t *testing.T) {
	for e, l := range wrongBeds() {
		for _, b := range l {
			expectCheck(t, b, e)
			for _, n := range []api.Needle{front(1), front(2), back(2), back(40), front(0), back(41), {Bed: 2, At: 2}} {
				expectSet(t, b, n, nil, stacks.Beds{}, e)
				expectSet(t, b, n, ids(id(0, 0)), stacks.Beds{}, e)
				expectSet(t, b, n, run(0, 5), stacks.Beds{}, e)
				expectSet(t, b, n, ids(id(3, 0), id(3, 0)), stacks.Beds{}, e)
				expectJoin(t, b, front(2), n, stacks.Beds{}, e)
				expectJoin(t, b, n, back(2), stacks.Beds{}, e)
			}
		}
	}
}

// P3.3, R2, R3: a wrong needle or name, then too many loops, then loops that are there already.
func TestSetErrors(t *testing.T) {
	fails := func(n api.Needle, l []api.Id, e api.Errno) {
		t.Helper()
		expectSet(t, example(), n, l, stacks.Beds{}, e)
	}
	for _, n := range wrongNeedles() {
		fails(n, nil, api.ErrArg)
		fails(n, ids(id(3, 0)), api.ErrArg)
		fails(n, run(10, maxStack+1), api.ErrArg)
		fails(n, ids(id(2, 0)), api.ErrArg)
	}
	for _, name := range wrongNames() {
		fails(front(1), ids(name), api.ErrArg)
		fails(back(2), ids(id(3, 0), name), api.ErrArg)
		fails(front(2), ids(name, name), api.ErrArg)
		fails(front(1), append(run(10, maxStack), name), api.ErrArg)
		fails(front(1), ids(id(2, 0), name), api.ErrArg)
	}
	for _, n := range allNeedles() {
		fails(n, run(10, maxStack+1), api.ErrFull)
		fails(n, run(10, 10000), api.ErrFull)
		fails(n, slices.Repeat(ids(id(3, 0)), maxStack+1), api.ErrFull)
		fails(n, append(run(10, maxStack), id(2, 0)), api.ErrFull)
		fails(n, ids(id(3, 0), id(3, 0)), api.ErrThere)
		fails(n, ids(id(3, 0), id(3, 1), id(3, 2), id(3, 0)), api.ErrThere)
		if n != front(2) {
			fails(n, ids(id(1, 1)), api.ErrThere)
			fails(n, ids(id(3, 0), id(1, 0)), api.ErrThere)
		}
		if n != back(2) {
			fails(n, ids(id(2, 0)), api.ErrThere)
		}
	}
	fails(front(2), ids(id(1, 0), id(1, 0)), api.ErrThere)
	fails(back(2), ids(id(2, 0), id(1, 0)), api.ErrThere)
}

// P3.3: of all beds with three loops, and lists of two.
func TestSetOfSmallBeds(t *testing.T) {
	three := ids(id(1, 0), id(1, 1), id(2, 0))
	eachBeds(func(b stacks.Beds) {
		for _, n := range someNeedles() {
			for _, p := range three {
				for _, q := range three {
					rest := put(b, n, nil)
					if p == q || slices.Contains(names(rest), p) || slices.Contains(names(rest), q) {
						expectSet(t, b, n, ids(p, q), stacks.Beds{}, api.ErrThere)
					} else {
						expectSet(t, b, n, ids(p, q), put(b, n, ids(p, q)), api.OK)
					}
				}
			}
		}
	})
}

// P3.4: between all needles, whether they are opposite or not.
func TestJoin(t *testing.T) {
	moved, there := ids(id(1, 0), id(1, 1)), ids(id(2, 0), id(2, 1))
	for i := 1; i <= maxNeedle; i++ {
		for k := 1; k <= maxNeedle; k++ {
			f, b := front(i), back(k)
			expectJoin(t, on(f, moved...), f, b, on(b, moved...), api.OK)
			expectJoin(t, on(b, moved...), b, f, on(f, moved...), api.OK)
			expectJoin(t, both(f, moved, b, there), f, b, on(b, slices.Concat(there, moved)...), api.OK)
			expectJoin(t, both(f, there, b, moved), b, f, on(f, slices.Concat(moved, there)...), api.OK)
		}
	}
}

// P3.4: as many loops as there is room for.
func TestJoinFull(t *testing.T) {
	for i := range maxStack + 1 {
		for k := range maxStack + 1 {
			l, m := run(0, i), run(100, k)
			toBack, toFront, e := on(back(9), slices.Concat(m, l)...), on(front(3), slices.Concat(l, m)...), api.OK
			if i+k > maxStack {
				toBack, toFront, e = stacks.Beds{}, stacks.Beds{}, api.ErrFull
			}
			if i > 0 {
				expectJoin(t, both(front(3), l, back(9), m), front(3), back(9), toBack, e)
				expectJoin(t, both(back(9), l, front(3), m), back(9), front(3), toFront, e)
			}
		}
	}
	for i := range maxNeedle {
		expectJoin(t, fullBeds(), front(i+1), back(i+1), stacks.Beds{}, api.ErrFull)
		expectJoin(t, fullBeds(), back(i+1), front(i+1), stacks.Beds{}, api.ErrFull)
	}
}

// P3.4, R2, R3: wrong needles first, then whether there are loops, then whether there is room.
func TestJoinErrors(t *testing.T) {
	for _, n := range wrongNeedles() {
		for _, m := range []api.Needle{front(1), front(2), back(1), back(2)} {
			expectJoin(t, example(), n, m, stacks.Beds{}, api.ErrArg)
			expectJoin(t, example(), m, n, stacks.Beds{}, api.ErrArg)
		}
		expectJoin(t, example(), n, n, stacks.Beds{}, api.ErrArg)
		expectJoin(t, example(), n, front(0), stacks.Beds{}, api.ErrArg)
	}
	b := both(front(2), run(0, maxStack), back(2), run(100, maxStack))
	for _, n := range allNeedles() {
		for _, m := range allNeedles() {
			switch {
			case n.Bed == m.Bed:
				expectJoin(t, b, n, m, stacks.Beds{}, api.ErrArg)
			case n.At != 2:
				expectJoin(t, b, n, m, stacks.Beds{}, api.ErrEmpty)
			case m.At == 2:
				expectJoin(t, b, n, m, stacks.Beds{}, api.ErrFull)
			}
			expectJoin(t, stacks.Beds{Front: [][]api.Id{{}, {}}}, n, m, stacks.Beds{}, map[bool]api.Errno{true: api.ErrArg, false: api.ErrEmpty}[n.Bed == m.Bed])
		}
	}
}

// P3.4, P3.5: of all beds with three loops: other stacks stay, and no loop is lost.
func TestJoinOfSmallBeds(t *testing.T) {
	eachBeds(func(b stacks.Beds) {
		for _, n := range someNeedles() {
			for _, m := range someNeedles() {
				l, there := held(b, n), held(b, m)
				if n.Bed == m.Bed || len(l) == 0 {
					continue
				}
				joined := slices.Concat(there, l)
				if n.Bed == api.Back {
					joined = slices.Concat(l, there)
				}
				expectJoin(t, b, n, m, put(put(b, n, nil), m, joined), api.OK)
				got, _ := stacks.Join(b, n, m)
				if !slices.Equal(names(got), names(b)) {
					t.Errorf("Join of %v from %v to %v: %v", b, n, m, got)
				}
				expectCount(t, got, stacks.Count(b))
				expectCheck(t, got, api.OK)
				if len(there) == 0 {
					expectJoin(t, got, m, n, b, api.OK)
				}
			}
		}
	})
}

// P3.5: Join there and back, and Set of what At returns, of full beds too.
func TestThereAndBack(t *testing.T) {
	for i := range maxNeedle {
		f, b := front(i+1), back(maxNeedle-i)
		for _, way := range [][2]api.Needle{{f, b}, {b, f}} {
			beds := put(fullBeds(), way[1], nil)
			gone, e := stacks.Join(beds, way[0], way[1])
			if e != api.OK || stacks.Same(gone, beds) {
				t.Fatalf("Join from %v to %v: %v, %d", way[0], way[1], gone, e)
			}
			expectJoin(t, gone, way[1], way[0], beds, api.OK)
		}
	}
	for _, beds := range []stacks.Beds{{}, example(), fullBeds(), on(back(40), run(0, maxStack)...)} {
		for _, n := range allNeedles() {
			expectSet(t, beds, n, stacks.At(beds, n), beds, api.OK)
		}
	}
	eachBeds(func(beds stacks.Beds) {
		for _, n := range someNeedles() {
			expectSet(t, beds, n, stacks.At(beds, n), beds, api.OK)
		}
	})
}

// roomy returns beds whose slices have others behind their ends, within their capacity.
func roomy(b stacks.Beds) stacks.Beds {
	widen := func(bed [][]api.Id) [][]api.Id {
		out := make([][]api.Id, len(bed), len(bed)+5)
		for i, l := range bed {
			out[i] = append(slices.Clone(l), run(11000, 5)...)[:len(l)]
		}
		rest := out[len(bed):cap(out)]
		for i := range rest {
			rest[i] = run(12000, 2)
		}
		return out
	}
	return stacks.Beds{Front: widen(b.Front), Back: widen(b.Back)}
}

// whole returns all that lies in the memory of beds, also behind the ends.
func whole(b stacks.Beds) []api.Id {
	var l []api.Id
	for _, bed := range [][][]api.Id{b.Front, b.Back} {
		for _, s := range bed[:cap(bed)] {
			l = append(l, s[:cap(s)]...)
		}
	}
	return l
}

// spoil changes all names of beds, and then takes all stacks away.
func spoil(b stacks.Beds) {
	for _, bed := range [][][]api.Id{b.Front, b.Back} {
		for _, l := range bed {
			for i := range l {
				l[i] = id(6, 2047)
			}
		}
		clear(bed)
	}
}

// R1, R4: arguments stay as they are, also behind their ends, and results are new memory.
func TestMemory(t *testing.T) {
	calls := map[string]func(b stacks.Beds, l []api.Id) stacks.Beds{
		"Set":       func(b stacks.Beds, l []api.Id) stacks.Beds { out, _ := stacks.Set(b, front(2), l); return out },
		"Set far":   func(b stacks.Beds, l []api.Id) stacks.Beds { out, _ := stacks.Set(b, back(39), l); return out },
		"Set none":  func(b stacks.Beds, l []api.Id) stacks.Beds { out, _ := stacks.Set(b, front(2), nil); return out },
		"Join":      func(b stacks.Beds, l []api.Id) stacks.Beds { out, _ := stacks.Join(b, front(2), back(2)); return out },
		"Join back": func(b stacks.Beds, l []api.Id) stacks.Beds { out, _ := stacks.Join(b, back(2), front(2)); return out },
		"Join far":  func(b stacks.Beds, l []api.Id) stacks.Beds { out, _ := stacks.Join(b, front(5), back(39)); return out },
		"At": func(b stacks.Beds, l []api.Id) stacks.Beds {
			return stacks.Beds{Front: [][]api.Id{stacks.At(b, front(2))}, Back: [][]api.Id{stacks.At(b, back(2))}}
		},
	}
	given := put(put(put(example(), front(5), run(20, 3)), front(9), nil), back(6), run(30, 1))
	for name, call := range calls {
		b, l := roomy(given), append(run(40, 2), run(50, 3)...)[:2]
		before, want := whole(b), call(given, l)
		got := call(b, l)
		if stacks.Count(got) == 0 || !equal(got, want) {
			t.Errorf("%s: %v, expected %v", name, got, want)
		}
		spoil(got)
		if !slices.Equal(whole(b), before) || !slices.Equal(l[:5], append(run(40, 2), run(50, 3)...)) {
			t.Errorf("%s changes its argument, or its result shares memory with it", name)
		}
		if again := call(b, l); !equal(again, want) {
			t.Errorf("%s, called again: %v, expected %v", name, again, want)
		}
	}
}

// R1: what was returned does not change with the arguments.
func TestResultsStay(t *testing.T) {
	b, l := example(), ids(id(3, 0), id(3, 1))
	set, _ := stacks.Set(b, back(5), l)
	joined, _ := stacks.Join(b, front(2), back(2))
	at := stacks.At(b, front(2))
	l[0] = id(6, 0)
	spoil(b)
	expectBeds(t, "Set", set, api.OK, put(example(), back(5), ids(id(3, 0), id(3, 1))), api.OK)
	expectBeds(t, "Join", joined, api.OK, on(back(2), id(2, 0), id(1, 0), id(1, 1)), api.OK)
	if !slices.Equal(at, ids(id(1, 0), id(1, 1))) {
		t.Errorf("At: %v", at)
	}
}
