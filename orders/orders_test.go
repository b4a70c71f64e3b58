package orders_test

import (
	"cmp"
	"math"
	"slices"
	"testing"

	"gansey/api"
	"gansey/needles"
	"gansey/orders"
	"gansey/stacks"
	"gansey/yarns"
)

const (
	maxNeedle = 40
	maxStack  = 4
	maxLoops  = 2048
	maxRack   = 4
)

// wrongRacks are racks that a machine cannot have.
var wrongRacks = []int{
	math.MinInt, math.MinInt + 1, math.MinInt32, -256, -6, -5,
	5, 6, 252, 256, math.MaxInt32, 1 << 32, 1<<32 + 1, 1 << 62, math.MaxInt - 1, math.MaxInt,
}

var directions = []api.Dir{api.Left, api.Right}

func front(at int) api.Needle { return api.Needle{Bed: api.Front, At: at} }

func back(at int) api.Needle { return api.Needle{Bed: api.Back, At: at} }

// id returns the name y.n of the chapter's examples.
func id(y uint8, n int) api.Id { return api.Id{Yarn: y, N: n} }

func ids(l ...api.Id) []api.Id { return l }

// run returns different names, from the number k on.
func run(k, n int) []api.Id {
	var l []api.Id
	for i := k; i < k+n; i++ {
		l = append(l, id(uint8(1+i/maxLoops%6), i%maxLoops))
	}
	return l
}

// put returns beds in which stacks stand on needles, also on those behind the last one; it leaves b as it is.
func put(b stacks.Beds, n api.Needle, l []api.Id) stacks.Beds {
	out := stacks.Beds{Front: slices.Clone(b.Front), Back: slices.Clone(b.Back)}
	bed := &out.Front
	if n.Bed == api.Back {
		bed = &out.Back
	}
	for len(*bed) < n.At {
		*bed = append(*bed, nil)
	}
	(*bed)[n.At-1] = l
	return out
}

// on returns beds on which one needle holds something.
func on(n api.Needle, l ...api.Id) stacks.Beds { return put(stacks.Beds{}, n, l) }

// both returns beds on which two needles hold something.
func both(n api.Needle, l []api.Id, m api.Needle, k []api.Id) stacks.Beds {
	return put(put(stacks.Beds{}, n, l), m, k)
}

// example returns the beds of the chapter's examples.
func example() stacks.Beds {
	return put(both(front(2), ids(id(1, 0), id(1, 1)), back(2), ids(id(2, 0), id(2, 1))), back(4), ids(id(2, 2)))
}

// fullBeds returns beds on which there is no room.
func fullBeds() stacks.Beds {
	var b stacks.Beds
	for i := range maxNeedle {
		b.Front = append(b.Front, run(maxStack*i, maxStack))
		b.Back = append(b.Back, run(3*maxLoops+maxStack*i, maxStack))
	}
	return b
}

// wrongBeds returns beds with an error, and the error.
func wrongBeds() map[api.Errno][]stacks.Beds {
	return map[api.Errno][]stacks.Beds{
		api.ErrFull:  {on(front(1), run(0, maxStack+1)...), put(example(), front(41), nil), put(example(), back(41), ids(id(3, 0))), put(example(), back(40), run(10, 5))},
		api.ErrArg:   {on(front(1), id(0, 0)), put(example(), back(9), ids(id(3, 0), id(1, 2048))), put(example(), front(9), ids(id(7, 0), id(7, 0)))},
		api.ErrThere: {on(front(1), id(1, 0), id(1, 0)), put(example(), back(40), ids(id(1, 1))), put(example(), front(1), ids(id(2, 0)))},
	}
}

// mixedBeds returns beds with all kinds of stacks, in which k decides what stands where.
func mixedBeds(k int) stacks.Beds {
	var b stacks.Beds
	state, next := uint32(k)*2654435761+1, 0
	for at := 1; at <= maxNeedle; at++ {
		for _, n := range []api.Needle{front(at), back(at)} {
			state = state*1664525 + 1013904223
			size := int(state>>24) % (maxStack + 2)
			if size <= maxStack {
				b = put(b, n, run(next, size))
				next += size
			}
		}
	}
	return b
}

// eachBeds visits beds with four loops on needles in the middle and at the ends, and some with more loops.
func eachBeds(visit func(stacks.Beds)) {
	for _, first := range []int{1, 38} {
		var some []api.Needle
		for at := first; at < first+3; at++ {
			some = append(some, front(at), back(at))
		}
		for code := range 6 * 6 * 6 * 6 {
			var b stacks.Beds
			for k, rest := 0, code; k < 4; k, rest = k+1, rest/6 {
				n := some[rest%6]
				b = put(b, n, append(slices.Clone(held(b, n)), id(uint8(1+k%2), k)))
			}
			visit(b)
		}
	}
	for k := range 50 {
		visit(mixedBeds(k))
	}
	for _, b := range []stacks.Beds{{}, {Front: make([][]api.Id, maxNeedle), Back: make([][]api.Id, 3)}, example(), fullBeds()} {
		visit(b)
	}
}

// held returns what a needle holds.
func held(b stacks.Beds, n api.Needle) []api.Id {
	bed := b.Front
	if n.Bed == api.Back {
		bed = b.Back
	}
	if n.At < 1 || n.At > len(bed) {
		return nil
	}
	return bed[n.At-1]
}

// entry is a loop with its index in its stack.
type entry struct {
	orders.Held
	index int
}

// entries returns the loops of a bed, from left to right.
func entries(b stacks.Beds, bed api.Bed, rack int) []entry {
	var l []entry
	for at := 1; at <= maxNeedle; at++ {
		n, spot := api.Needle{Bed: bed, At: at}, 4*at+2
		if bed == api.Back {
			spot = 4*at + 4*rack
		}
		for i, name := range held(b, n) {
			l = append(l, entry{orders.Held{Id: name, Needle: n, Spot: spot}, i})
		}
	}
	return l
}

// listed is what List must return: it merges both beds.
func listed(b stacks.Beds, rack int) []orders.Held {
	var out []orders.Held
	f, k := entries(b, api.Front, rack), entries(b, api.Back, rack)
	for len(f)+len(k) > 0 {
		if len(k) == 0 || len(f) > 0 && f[0].Spot < k[0].Spot {
			out, f = append(out, f[0].Held), f[1:]
		} else {
			out, k = append(out, k[0].Held), k[1:]
		}
	}
	return out
}

// stepped is what Step must return: it tries all pairs of a back and a front loop, and sorts those that cross.
func stepped(b stacks.Beds, rack int, d api.Dir) []orders.Cross {
	type pair struct{ back, front entry }
	var l []pair
	way := 2*int(d) - 1
	for _, k := range entries(b, api.Back, rack) {
		for _, f := range entries(b, api.Front, rack) {
			if (f.Spot-k.Spot)*way == 2 {
				l = append(l, pair{k, f})
			}
		}
	}
	slices.SortFunc(l, func(p, q pair) int {
		return cmp.Or(
			way*cmp.Compare(q.back.Spot, p.back.Spot),
			way*cmp.Compare(q.back.index, p.back.index),
			way*cmp.Compare(p.front.index, q.front.index))
	})
	var out []orders.Cross
	for _, p := range l {
		if d == api.Right {
			out = append(out, orders.Cross{A: p.back.Id, B: p.front.Id, Sign: -1})
		} else {
			out = append(out, orders.Cross{A: p.front.Id, B: p.back.Id, Sign: 1})
		}
	}
	return out
}

// met is what Meets must return: a carrier passes the loops that change the side on which they are.
func met(b stacks.Beds, rack int, d api.Dir, place int) []yarns.Pass {
	var out []yarns.Pass
	behind := entries(b, api.Back, rack+2*int(d)-1)
	for i, k := range entries(b, api.Back, rack) {
		switch {
		case k.Spot < place && place < behind[i].Spot:
			out = append([]yarns.Pass{{Id: k.Id, Front: true, Dir: api.Left}}, out...)
		case behind[i].Spot < place && place < k.Spot:
			out = append(out, yarns.Pass{Id: k.Id, Front: true, Dir: api.Right})
		}
	}
	return out
}

// expect checks a result: with an error it is the zero value, and its slice has no room behind it.
func expect[T comparable](t *testing.T, what string, got []T, e api.Errno, want []T, we api.Errno) {
	t.Helper()
	if e != we || !slices.Equal(got, want) {
		t.Errorf("%s = %v, %d, expected %v, %d", what, got, e, want, we)
	}
	if len(got) != cap(got) {
		t.Errorf("%s: length %d, capacity %d", what, len(got), cap(got))
	}
}

func expectList(t *testing.T, b stacks.Beds, rack int, want []orders.Held, we api.Errno) {
	t.Helper()
	got, e := orders.List(b, rack)
	expect(t, "List", got, e, want, we)
}

func expectStep(t *testing.T, b stacks.Beds, rack int, d api.Dir, want []orders.Cross, we api.Errno) {
	t.Helper()
	got, e := orders.Step(b, rack, d)
	expect(t, "Step", got, e, want, we)
}

func expectMeets(t *testing.T, b stacks.Beds, rack int, d api.Dir, place int, want []yarns.Pass, we api.Errno) {
	t.Helper()
	got, e := orders.Meets(b, rack, d, place)
	expect(t, "Meets", got, e, want, we)
}

func expectBetween(t *testing.T, l []orders.Held, from, to int, want []yarns.Pass) {
	t.Helper()
	expect(t, "Between", orders.Between(l, from, to), api.OK, want, api.OK)
}

// names returns the loops of a list.
func names(l []orders.Held) []api.Id {
	out := make([]api.Id, len(l))
	for i, h := range l {
		out[i] = h.Id
	}
	return out
}

// The examples of the chapter.
func TestExamples(t *testing.T) {
	b := example()
	l, e := orders.List(b, 0)
	expect(t, "List(0)", names(l), e, ids(id(2, 0), id(2, 1), id(1, 0), id(1, 1), id(2, 2)), api.OK)
	expectList(t, b, 1, []orders.Held{
		{Id: id(1, 0), Needle: front(2), Spot: 10}, {Id: id(1, 1), Needle: front(2), Spot: 10},
		{Id: id(2, 0), Needle: back(2), Spot: 12}, {Id: id(2, 1), Needle: back(2), Spot: 12}, {Id: id(2, 2), Needle: back(4), Spot: 20},
	}, api.OK)
	expectStep(t, b, 0, api.Right, []orders.Cross{
		{A: id(2, 1), B: id(1, 0), Sign: -1}, {A: id(2, 1), B: id(1, 1), Sign: -1}, {A: id(2, 0), B: id(1, 0), Sign: -1}, {A: id(2, 0), B: id(1, 1), Sign: -1},
	}, api.OK)
	expectStep(t, b, 1, api.Left, []orders.Cross{
		{A: id(1, 1), B: id(2, 0), Sign: 1}, {A: id(1, 0), B: id(2, 0), Sign: 1}, {A: id(1, 1), B: id(2, 1), Sign: 1}, {A: id(1, 0), B: id(2, 1), Sign: 1},
	}, api.OK)
	expectBetween(t, l, -13, 11, []yarns.Pass{
		{Id: id(2, 0), Front: true, Dir: api.Right}, {Id: id(2, 1), Front: true, Dir: api.Right}, {Id: id(1, 0), Dir: api.Right}, {Id: id(1, 1), Dir: api.Right},
	})
	expectBetween(t, l, 11, 9, []yarns.Pass{{Id: id(1, 1), Dir: api.Left}, {Id: id(1, 0), Dir: api.Left}})
	passed := []yarns.Pass{{Id: id(2, 1), Front: true, Dir: api.Left}, {Id: id(2, 0), Front: true, Dir: api.Left}}
	expectMeets(t, b, 0, api.Right, 9, passed, api.OK)
	expectMeets(t, b, 0, api.Right, 11, passed, api.OK)
	expectMeets(t, b, 0, api.Right, 13, nil, api.OK)
	expectStep(t, b, 4, api.Right, nil, api.ErrRack)
}

// P4.1: on every needle, with every rack.
func TestListOfANeedle(t *testing.T) {
	for at := 1; at <= maxNeedle; at++ {
		for rack := -maxRack; rack <= maxRack; rack++ {
			for size := range maxStack + 1 {
				var inFront, behind []orders.Held
				for _, name := range run(0, size) {
					inFront = append(inFront, orders.Held{Id: name, Needle: front(at), Spot: 4*at + 2})
					behind = append(behind, orders.Held{Id: name, Needle: back(at), Spot: 4 * (at + rack)})
				}
				expectList(t, on(front(at), run(0, size)...), rack, inFront, api.OK)
				expectList(t, on(back(at), run(0, size)...), rack, behind, api.OK)
			}
		}
	}
}

// P4.1
func TestList(t *testing.T) {
	eachBeds(func(b stacks.Beds) {
		for rack := -maxRack; rack <= maxRack; rack++ {
			expectList(t, b, rack, listed(b, rack), api.OK)
		}
	})
}

// P4.1, P4.3, P4.4, R2, R3: the error of the beds comes first, then the rack, then the direction, then the rack behind the step, then the place.
func TestErrors(t *testing.T) {
	for e, l := range wrongBeds() {
		for _, b := range l {
			for _, rack := range append([]int{-4, 0, 4}, wrongRacks...) {
				expectList(t, b, rack, nil, e)
				for _, d := range []api.Dir{api.Left, api.Right, 2, 255} {
					expectStep(t, b, rack, d, nil, e)
					expectMeets(t, b, rack, d, 9, nil, e)
					expectMeets(t, b, rack, d, 10, nil, e)
				}
			}
		}
	}
	for _, b := range []stacks.Beds{{}, example(), fullBeds()} {
		for _, rack := range wrongRacks {
			expectList(t, b, rack, nil, api.ErrRack)
			for d := range 256 {
				expectStep(t, b, rack, api.Dir(d), nil, api.ErrRack)
				expectMeets(t, b, rack, api.Dir(d), 9, nil, api.ErrRack)
				expectMeets(t, b, rack, api.Dir(d), 10, nil, api.ErrRack)
			}
		}
		for rack := -maxRack; rack <= maxRack; rack++ {
			for d := 2; d <= 255; d++ {
				expectStep(t, b, rack, api.Dir(d), nil, api.ErrArg)
				expectMeets(t, b, rack, api.Dir(d), 9, nil, api.ErrArg)
				expectMeets(t, b, rack, api.Dir(d), 10, nil, api.ErrArg)
			}
		}
	}
}

// P4.3, P4.4, R2: the bed cannot be moved farther than MaxRack.
func TestEndsOfTheRack(t *testing.T) {
	for _, b := range []stacks.Beds{{}, example(), fullBeds()} {
		for _, place := range []int{-13, 9, 10, 0, math.MinInt, math.MaxInt} {
			expectMeets(t, b, 4, api.Right, place, nil, api.ErrRack)
			expectMeets(t, b, -4, api.Left, place, nil, api.ErrRack)
		}
		expectStep(t, b, 4, api.Right, nil, api.ErrRack)
		expectStep(t, b, -4, api.Left, nil, api.ErrRack)
		expectStep(t, b, 3, api.Right, stepped(b, 3, api.Right), api.OK)
		expectStep(t, b, -3, api.Left, stepped(b, -3, api.Left), api.OK)
		expectStep(t, b, 4, api.Left, stepped(b, 4, api.Left), api.OK)
		expectStep(t, b, -4, api.Right, stepped(b, -4, api.Right), api.OK)
	}
}

// P4.4: even places, and those that no stack passes.
func TestPlaces(t *testing.T) {
	for _, place := range []int{math.MinInt, math.MinInt + 2, -14, -12, -2, 0, 2, 8, 10, 12, 178, 180, 1 << 32, math.MaxInt - 1} {
		expectMeets(t, example(), 0, api.Right, place, nil, api.ErrArg)
		expectMeets(t, example(), 0, api.Left, place, nil, api.ErrArg)
		expectMeets(t, stacks.Beds{}, 0, api.Left, place, nil, api.ErrArg)
	}
	for _, place := range []int{math.MinInt + 1, -1001, -15, 181, 1<<32 + 9, 1<<62 + 9, math.MaxInt} {
		for rack := -3; rack <= 3; rack++ {
			expectMeets(t, fullBeds(), rack, api.Right, place, nil, api.OK)
			expectMeets(t, fullBeds(), rack, api.Left, place, nil, api.OK)
		}
	}
	for place := -13; place <= 179; place += 2 {
		expectMeets(t, on(front(7), id(1, 0)), 0, api.Right, place, nil, api.OK)
	}
}

// eachStep visits all steps of the rack.
func eachStep(visit func(rack int, d api.Dir)) {
	for rack := -maxRack; rack <= maxRack; rack++ {
		for _, d := range directions {
			if after := rack + 2*int(d) - 1; -maxRack <= after && after <= maxRack {
				visit(rack, d)
			}
		}
	}
}

// P4.3
func TestStep(t *testing.T) {
	eachBeds(func(b stacks.Beds) {
		eachStep(func(rack int, d api.Dir) {
			expectStep(t, b, rack, d, stepped(b, rack, d), api.OK)
		})
	})
}

// P4.3: on every pair of needles: only stacks that pass each other cross.
func TestStepOfTwoNeedles(t *testing.T) {
	for i := 1; i <= maxNeedle; i++ {
		for k := 1; k <= maxNeedle; k++ {
			b := both(front(i), ids(id(1, 0)), back(k), ids(id(2, 0)))
			eachStep(func(rack int, d api.Dir) {
				var want []orders.Cross
				if d == api.Right && i == k+rack {
					want = []orders.Cross{{A: id(2, 0), B: id(1, 0), Sign: -1}}
				}
				if d == api.Left && i == k+rack-1 {
					want = []orders.Cross{{A: id(1, 0), B: id(2, 0), Sign: 1}}
				}
				expectStep(t, b, rack, d, want, api.OK)
			})
		}
	}
}

// P4.4
func TestMeets(t *testing.T) {
	for k := range 8 {
		b := mixedBeds(k)
		if k == 0 {
			b = fullBeds()
		}
		eachStep(func(rack int, d api.Dir) {
			for place := -21; place <= 187; place += 2 {
				expectMeets(t, b, rack, d, place, met(b, rack, d, place), api.OK)
			}
		})
	}
}

// P4.2: to the right and to the left, between all places.
func TestBetween(t *testing.T) {
	for _, rack := range []int{-4, -1, 0, 3} {
		l := listed(mixedBeds(rack+5), rack)
		for from := -13; from <= 179; from += 4 {
			for to := -13; to <= 179; to++ {
				var want []yarns.Pass
				for _, h := range l {
					p := yarns.Pass{Id: h.Id, Front: h.Needle.Bed == api.Back}
					if from < h.Spot && h.Spot < to {
						p.Dir = api.Right
						want = append(want, p)
					}
					if to < h.Spot && h.Spot < from {
						want = append([]yarns.Pass{p}, want...)
					}
				}
				expectBetween(t, l, from, to, want)
			}
		}
	}
}

// P4.2, R3: it accepts all lists, and takes their loops as they come, with the spots that they tell.
func TestBetweenOfAnyList(t *testing.T) {
	l := []orders.Held{
		{Id: id(9, -1), Needle: api.Needle{Bed: 7, At: 99}, Spot: 5}, {Id: id(1, 0), Needle: api.Needle{Bed: api.Back, At: -3}, Spot: 3},
		{Id: id(1, 0), Needle: front(1), Spot: 4}, {Id: id(1, 0), Needle: front(1), Spot: 4}, {Id: id(3, 5), Needle: api.Needle{Bed: 255}, Spot: 4},
		{Id: id(5, 0), Spot: math.MaxInt}, {Id: id(6, 0), Needle: back(1), Spot: math.MinInt}, {},
	}
	right := func(i int) yarns.Pass {
		return yarns.Pass{Id: l[i].Id, Front: i == 1 || i == 6, Dir: api.Right}
	}
	left := func(i int) yarns.Pass {
		return yarns.Pass{Id: l[i].Id, Front: i == 1 || i == 6, Dir: api.Left}
	}
	expectBetween(t, l, 2, 6, []yarns.Pass{right(0), right(1), right(2), right(3), right(4)})
	expectBetween(t, l, 6, 2, []yarns.Pass{left(4), left(3), left(2), left(1), left(0)})
	expectBetween(t, l, 3, 5, []yarns.Pass{right(2), right(3), right(4)})
	expectBetween(t, l, 5, 3, []yarns.Pass{left(4), left(3), left(2)})
	expectBetween(t, l, math.MinInt, math.MaxInt, []yarns.Pass{right(0), right(1), right(2), right(3), right(4), right(7)})
	expectBetween(t, l, math.MaxInt, math.MinInt, []yarns.Pass{left(7), left(4), left(3), left(2), left(1), left(0)})
	expectBetween(t, l, 4, math.MaxInt, []yarns.Pass{right(0)})
	expectBetween(t, l, -1, math.MinInt, []yarns.Pass{})
	expectBetween(t, l, 0, math.MinInt, []yarns.Pass{})
	expectBetween(t, l, 1, math.MinInt, []yarns.Pass{left(7)})
	for _, n := range []int{math.MinInt, 0, 3, 4, 5, math.MaxInt} {
		expectBetween(t, l, n, n, nil)
		expectBetween(t, nil, n, 4, nil)
		expectBetween(t, []orders.Held{}, 4, n, nil)
	}
}

// P4.5: the crossings lead from the order before to the order behind the step, and each of them is of neighbours.
func TestStepLeadsToTheOrderBehind(t *testing.T) {
	eachBeds(func(b stacks.Beds) {
		eachStep(func(rack int, d api.Dir) {
			before, _ := orders.List(b, rack)
			behind, _ := orders.List(b, rack+2*int(d)-1)
			crossings, e := orders.Step(b, rack, d)
			l := names(before)
			for _, c := range crossings {
				i := slices.Index(l, c.A)
				if i < 0 || i+1 >= len(l) || l[i+1] != c.B {
					t.Fatalf("Step(%v, %d, %d): %v cross, which are no neighbours in %v", b, rack, d, c, l)
				}
				l[i], l[i+1] = l[i+1], l[i]
			}
			if e != api.OK || !slices.Equal(l, names(behind)) {
				t.Fatalf("Step(%v, %d, %d) leads to %v, expected %v", b, rack, d, l, names(behind))
			}
		})
	})
}

// P4.5: the step back takes the crossings back, and what a carrier has met.
func TestStepBack(t *testing.T) {
	eachBeds(func(b stacks.Beds) {
		eachStep(func(rack int, d api.Dir) {
			after, other := rack+2*int(d)-1, api.Right-d
			crossings, e := orders.Step(b, rack, d)
			var back []orders.Cross
			for _, c := range slices.Backward(crossings) {
				back = append(back, orders.Cross{A: c.B, B: c.A, Sign: -c.Sign})
			}
			expectStep(t, b, after, other, slices.Clip(back), e)
			for place := 1; place <= 179; place += 30 {
				passed, e := orders.Meets(b, rack, d, place)
				expectMeets(t, b, after, other, place, yarns.Inverse(passed), e)
			}
		})
	})
}

// P4.4, P4.2: a carrier that meets a stack is behind the step where it had to go past what is not there any more.
func TestMeetsFitsTheOrders(t *testing.T) {
	for k := range 6 {
		b := mixedBeds(k)
		eachStep(func(rack int, d api.Dir) {
			before, _ := orders.List(b, rack)
			behind, _ := orders.List(b, rack+2*int(d)-1)
			for place := needles.LeftEnd; place <= needles.RightEnd; place += 6 {
				passed, _ := orders.Meets(b, rack, d, place)
				for _, p := range passed {
					was := slices.Contains(orders.Between(before, -100, place), yarns.Pass{Id: p.Id, Front: true, Dir: api.Right})
					is := slices.Contains(orders.Between(behind, -100, place), yarns.Pass{Id: p.Id, Front: true, Dir: api.Right})
					if was == is || was != (p.Dir == api.Left) {
						t.Errorf("Meets(%d, %d, %d): %v, but before it was left: %v, and then: %v", rack, d, place, p, was, is)
					}
				}
			}
		})
	}
}

// spacious returns beds whose slices have room behind them, and a function that tells whether they, and what is behind them, are as they were.
func spacious(of stacks.Beds) (stacks.Beds, func() bool) {
	stretch := func(bed [][]api.Id) [][]api.Id {
		out := make([][]api.Id, 0, len(bed)+3)
		for _, l := range bed {
			stack := append(make([]api.Id, 0, len(l)+3), l...)
			copy(stack[len(l):cap(stack)], ids(id(9, 1), id(9, 2), id(9, 3)))
			out = append(out, stack)
		}
		copy(out[len(bed):cap(out)], [][]api.Id{ids(id(8, 0)), ids(id(8, 1)), ids(id(8, 2))})
		return out
	}
	flat := func(bed [][]api.Id) []api.Id {
		var l []api.Id
		for _, stack := range bed[:cap(bed)] {
			l = append(l, stack[:cap(stack)]...)
			l = append(l, id(7, len(stack)))
		}
		return l
	}
	b := stacks.Beds{Front: stretch(of.Front), Back: stretch(of.Back)}
	f, k := flat(b.Front), flat(b.Back)
	return b, func() bool { return slices.Equal(f, flat(b.Front)) && slices.Equal(k, flat(b.Back)) }
}

// R1: arguments stay as they are, also behind their ends; R4: later changes of them do not change results.
func TestMemory(t *testing.T) {
	for _, plain := range []stacks.Beds{example(), fullBeds(), mixedBeds(3)} {
		b, unchanged := spacious(plain)
		l, _ := orders.List(b, 0)
		right, _ := orders.Step(b, 0, api.Right)
		left, _ := orders.Step(b, 0, api.Left)
		meets, _ := orders.Meets(b, 0, api.Right, 9)
		if !unchanged() {
			t.Errorf("the beds have changed: %v", b)
		}
		for _, bed := range [][][]api.Id{b.Front, b.Back} {
			for _, stack := range bed {
				clear(stack)
			}
		}
		expect(t, "List", l, api.OK, listed(plain, 0), api.OK)
		expect(t, "Step", right, api.OK, stepped(plain, 0, api.Right), api.OK)
		expect(t, "Step", left, api.OK, stepped(plain, 0, api.Left), api.OK)
		expect(t, "Meets", meets, api.OK, met(plain, 0, api.Right, 9), api.OK)
		long := slices.Grow(slices.Clone(listed(plain, 0)), 3)
		orders.Between(long, -13, 179)
		orders.Between(long, 179, -13)
		if !slices.Equal(long, l) || !slices.Equal(long[len(l):len(l)+3], make([]orders.Held, 3)) {
			t.Errorf("the list has changed: %v", long[:len(l)+3])
		}
	}
}

// R4: two calls return memory of their own.
func TestResultsAreTheirOwn(t *testing.T) {
	b := example()
	for range 2 {
		l, _ := orders.List(b, 0)
		clear(l)
		crossings, _ := orders.Step(b, 0, api.Right)
		clear(crossings)
		meets, _ := orders.Meets(b, 0, api.Right, 9)
		clear(meets)
		clear(orders.Between(listed(b, 0), -13, 11))
	}
	TestExamples(t)
}
