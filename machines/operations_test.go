package machines_test

import (
	"fmt"
	"slices"
	"strconv"
	"strings"
	"testing"

	"gansey/api"
	"gansey/fabrics"
	"gansey/loops"
	"gansey/machines"
	"gansey/operations"
	"gansey/yarns"
)

// pass returns a pass behind a loop.
func pass(name api.Id, d api.Dir) yarns.Pass { return yarns.Pass{Id: name, Dir: d} }

// before returns a pass in front of a loop.
func before(name api.Id, d api.Dir) yarns.Pass { return yarns.Pass{Id: name, Front: true, Dir: d} }

// expectLike checks that an operation does what it does to the model, and returns what is behind it; or the state from before, if there is an error.
func expectLike(t *testing.T, s machines.State, o operations.Op) (machines.State, api.Errno) {
	t.Helper()
	m := modelOf(s)
	want := m.do(o)
	got, e := machines.Step(s, o)
	if e != want {
		t.Fatalf("Step(%v, %v) = %d, expected %d", s, o, e, want)
	}
	if e != api.OK {
		expectState(t, "with an error", got, machines.State{})
		return s, e
	}
	expectState(t, fmt.Sprintf("Step(%v, %v)", s, o), got, m.state())
	if !machines.Same(got, m.state()) || machines.Check(got) != api.OK {
		t.Fatalf("Step(%v, %v) is not the same, or not valid", s, o)
	}
	return got, e
}

// P8.2: where a carrier is behind an operation, and what is pending then.
func TestPlaces(t *testing.T) {
	for _, c := range []struct {
		text    string
		place   int
		pending []yarns.Pass
	}{
		{"in 1 left", leftEnd, nil},
		{"in 1 right", rightEnd, nil},
		{"in 1 left; knit right f1 1", 7, nil},
		{"in 1 right; tuck left f1 1", 5, nil},
		{"in 1 left; miss right b1 1", 5, nil},
		{"rack -4; in 1 right; miss left b1 1", leftEnd, nil},
		{"rack -4; in 1 left; miss right b1 1", -11, nil},
		{"rack 4; in 1 left; miss right b40 1", 177, nil},
		{"rack 4; in 1 right; miss left b40 1", 175, nil},
		{"in 1 left; knit right f1 1; knit right f2 1; miss left f1 1", 5, []yarns.Pass{pass(id(1, 1), api.Left), pass(id(1, 0), api.Left)}},
		{"in 1 left; knit right f1 1; knit right b2 1; miss left b2 1", 7, []yarns.Pass{before(id(1, 1), api.Left)}},
		{"in 1 left; tuck right f2 1; tuck left f2 1; miss left f1 1", 5, nil},
		{"in 1 left; tuck right f2 1; tuck left f2 1; miss right f2 1", 11, []yarns.Pass{pass(id(1, 0), api.Right), pass(id(1, 1), api.Right)}},
		{"in 1 left; tuck right f2 1; tuck left f2 1; miss right f40 1; miss left f1 1", 5, nil},
		{"in 1 left; tuck right f2 1; tuck left f2 1; in 2 right; miss left f2 2", 9, []yarns.Pass{pass(id(1, 1), api.Left), pass(id(1, 0), api.Left)}},
		{"in 1 left; knit right f1 1; knit right b2 1; knit right f3 1; in 2 left; miss right f3 2; miss left b2 2", 7, []yarns.Pass{pass(id(1, 0), api.Right)}},
		{"in 1 left; knit right f1 1; in 2 left; knit right f2 2; miss right f3 2", 15, nil},
		{"in 1 left; knit right f1 1; xfer f1; rack 4", 7, []yarns.Pass{before(id(1, 0), api.Left)}},
		{"in 1 left; knit right f1 1; xfer f1; rack -4", 7, nil},
		{"in 1 left; knit right f1 1; xfer f1; rack 4; rack 0", 7, nil},
		{"in 1 left; knit right f1 1; xfer f1; miss left f1 1; rack 1", 5, []yarns.Pass{before(id(1, 0), api.Left)}},
		{"in 1 left; knit right f1 1; xfer f1; miss left b1 1; rack 1", 3, []yarns.Pass{before(id(1, 0), api.Left)}},
		{"in 1 left; knit right f1 1; xfer f1; miss left b1 1; rack -1", 3, []yarns.Pass{before(id(1, 0), api.Left), before(id(1, 0), api.Right)}[:0]},
	} {
		y := run(t, c.text).Yarns[strings.Count(c.text, "in ")-1]
		if !y.In || y.Place != c.place || !slices.Equal(y.Pending, c.pending) {
			t.Errorf("%q: place %d, pending %v, expected %d, %v", c.text, y.Place, y.Pending, c.place, c.pending)
		}
	}
	y := run(t, "in 1 left; knit right f1 1; knit right f9 1; miss left f1 1; out 1").Yarns[0]
	if fmt.Sprint(y) != fmt.Sprint(yarns.Yarn{Count: 2}) {
		t.Errorf("out: %v", y)
	}
}

// P8.2: what the loops that are made are like, and what holds them.
func TestLoops(t *testing.T) {
	expectMake(t, "in 1 left; knit right b1 1; out 1; in 1 right; knit left b1 1; tuck right f1 1",
		"1.0 back new", "1.1 back new through 1.0", "1.2 front past 1.1>+", "held 1.1 1.2")
	// A tuck is put to the right end, wherever it comes from; a knit goes through all loops of the needle, and leaves those of the opposite one.
	expectMake(t, "in 1 left; in 2 left; tuck right f3 1; tuck right f3 2; tuck left f3 1; tuck left f3 2; tuck left b3 1; knit right f3 1",
		"1.0 front new", "1.1 front", "1.2 back", "1.3 front through 1.0 2.0 1.1 2.1 past 1.2>+", "2.0 front new", "2.1 front", "held 1.2 1.3")
	expectMake(t, "in 1 left; knit right f1 1; knit right f2 1; xfer f1; rack 1; xfer b1; rack 0; knit left f2 1",
		"1.0 front new", "1.1 front", "1.2 front through 1.0 1.1", "held 1.2")
	expectMake(t, "in 1 left; knit right f1 1; drop f1; knit right f2 1; drop f2; in 2 right; knit left f1 2; tuck right f1 2; drop f1",
		"1.0 front new", "1.1 front", "2.0 front new", "2.1 front", "fallen 1.0 1.1 2.0 2.1")
	expectMake(t, "in 2 left; knit right f1 2; drop f1; in 1 left; knit right f1 1; knit right f2 1; drop f2; drop f1",
		"1.0 front new", "1.1 front", "2.0 front new", "fallen 1.0 1.1 2.0")
}

// P8.2: the crossings of more than one step, both ways, and those that come to nothing.
func TestCrossings(t *testing.T) {
	two := "in 1 left; knit right f1 1; knit right f2 1; knit right f3 1; tuck left f2 1; out 1; xfer f1; "
	same := []string{"1.0 front new", "1.1 front", "1.2 front", "1.3 front past 1.2<"}
	for _, c := range []struct {
		text string
		rest []string
	}{
		{"rack 1", []string{"held 1.0 1.1 1.3 1.2"}},
		{"rack 2", []string{"cross 1.0 1.1 -1", "cross 1.0 1.3 -1", "held 1.1 1.3 1.0 1.2"}},
		{"rack 4", []string{"cross 1.0 1.1 -1", "cross 1.0 1.2 -1", "cross 1.0 1.3 -1", "held 1.1 1.3 1.2 1.0"}},
		{"rack 4; rack -4; rack 0", []string{"held 1.0 1.1 1.3 1.2"}},
		{"rack 2; xfer b1; rack 0; xfer f3; rack 1; xfer b3; rack 0", []string{"cross 1.0 1.1 -1", "cross 1.0 1.3 -1", "held 1.1 1.3 1.0 1.2"}},
		{"rack 2; xfer b1; xfer f3; rack 0; xfer b1", []string{"cross 1.1 1.2 1", "cross 1.2 1.3 1", "held 1.0 1.2 1.1 1.3"}},
	} {
		expectMake(t, two+c.text, slices.Concat(same, c.rest)...)
	}
	// Each of two loops goes behind the other one to the right.
	expectMake(t, "in 1 left; knit right f1 1; knit right f2 1; out 1; xfer f1; rack 2; xfer b1; rack 0; xfer f2; rack 2; xfer b2; rack 0; xfer f3; rack -2; xfer b3",
		"1.0 front new", "1.1 front", "cross 1.0 1.1 -2", "held 1.0 1.1")
}

// P8.2, R2: the errors of operations that cannot be done, in their order.
func TestOperationErrors(t *testing.T) {
	full := "in 1 left; tuck right f2 1; tuck left f2 1; tuck right f2 1; tuck left f2 1; "
	for _, c := range []struct {
		text, op string
		want     api.Errno
	}{
		{"", "out 1", api.ErrYarn},
		{"in 1 left", "in 1 left", api.ErrYarn},
		{"in 1 left", "in 1 right", api.ErrYarn},
		{"in 1 left", "out 2", api.ErrYarn},
		{"in 1 left; out 1", "out 1", api.ErrYarn},
		{"in 2 left", "knit right f1 1", api.ErrYarn},
		{"in 2 left", "tuck right f1 1", api.ErrYarn},
		{"in 2 left", "miss right f1 1", api.ErrYarn},
		{"in 1 left", "knit left f1 1", api.ErrYarn},
		{"in 1 left; rack -4", "miss left b1 1", api.ErrYarn},
		{"in 1 right", "knit right f40 1", api.ErrYarn},
		{"in 1 right; rack 4", "tuck right b40 1", api.ErrYarn},
		{"in 1 left; knit right f5 1", "knit right f5 1", api.ErrYarn},
		{"in 1 left; knit right f5 1", "knit right b5 1", api.ErrYarn},
		{"in 1 left; knit right f5 1", "miss right f1 1", api.ErrYarn},
		{"in 1 left; knit right f5 1", "tuck left b6 1", api.ErrYarn},
		{"in 1 left; knit right f5 1; rack -1", "knit right b6 1", api.ErrYarn},
		{"in 1 left; knit right f5 1; rack 1", "knit left b5 1", api.ErrYarn},
		{full, "tuck right f2 1", api.ErrFull},
		{full, "tuck left f2 1", api.ErrYarn},
		{full + "knit left b2 1", "xfer b2", api.ErrFull},
		{full + "knit left b2 1", "xfer f2", api.ErrFull},
		{full + "knit left b2 1; miss right b2 1", "xfer b2", api.ErrYarn},
		{full + "knit left b2 1; miss right b2 1", "xfer f2", api.ErrYarn},
		{full + "knit left b2 1; miss right b2 1; out 1", "xfer f2", api.ErrFull},
		{full + "out 1", "tuck right f2 1", api.ErrYarn},
		{"", "xfer f1", api.ErrEmpty},
		{"rack 1", "xfer f1", api.ErrEmpty},
		{"rack 1", "xfer b40", api.ErrEmpty},
		{"in 1 left; knit right f1 1; rack 1", "xfer f1", api.ErrRack},
		{"in 1 left; knit right f40 1; rack -1", "xfer f40", api.ErrRack},
		{"in 1 left; knit right b1 1; rack -1", "xfer b1", api.ErrRack},
		{"in 1 left; knit right b40 1; rack 4", "xfer b40", api.ErrRack},
		{"in 1 left; knit right f1 1", "xfer b1", api.ErrEmpty},
		{"in 1 left; knit right b3 1", "xfer b3", api.ErrYarn},
		{"in 1 right; knit left f3 1", "xfer f3", api.ErrYarn},
		{"in 1 left; knit right b3 1; in 2 right; miss left f3 2; miss right f9 1", "xfer b3", api.ErrYarn},
		{"", "drop f1", api.ErrEmpty},
		{"in 1 left; knit right f1 1", "drop b1", api.ErrEmpty},
		{"in 1 left; knit right f1 1; drop f1", "drop f1", api.ErrEmpty},
	} {
		s := run(t, c.text)
		expectError(t, s, c.op, c.want)
		if e := modelOf(s).do(op(t, c.op)); e != c.want {
			t.Errorf("%q, %q: the model has the error %d, expected %d", c.text, c.op, e, c.want)
		}
	}
}

// P8.2: the errors of operations.Check come behind those of the state, and before those of the operation.
func TestInvalidOperations(t *testing.T) {
	invalid := []struct {
		o    operations.Op
		want api.Errno
	}{
		{operations.Op{}, api.ErrArg},
		{operations.Op{Kind: operations.In, Yarn: 7}, api.ErrArg},
		{operations.Op{Kind: operations.In, Yarn: 1, Dir: 2}, api.ErrArg},
		{operations.Op{Kind: operations.Out}, api.ErrArg},
		{operations.Op{Kind: operations.Rack, Rack: 5}, api.ErrRack},
		{operations.Op{Kind: operations.Rack, Rack: -5}, api.ErrRack},
		{operations.Op{Kind: operations.Rack, Rack: 5, Yarn: 1}, api.ErrArg},
		{operations.Op{Kind: operations.Knit, Needle: front(0), Yarn: 1}, api.ErrArg},
		{operations.Op{Kind: operations.Tuck, Needle: front(41), Yarn: 1}, api.ErrArg},
		{operations.Op{Kind: operations.Miss, Needle: front(1)}, api.ErrArg},
		{operations.Op{Kind: operations.Miss, Needle: front(1), Yarn: 255}, api.ErrArg},
		{operations.Op{Kind: operations.Xfer}, api.ErrArg},
		{operations.Op{Kind: operations.Drop, Needle: api.Needle{Bed: 2, At: 1}}, api.ErrArg},
	}
	for k := range 256 {
		if k == 0 || k > 8 {
			invalid = append(invalid, struct {
				o    operations.Op
				want api.Errno
			}{operations.Op{Kind: operations.Kind(k), Needle: front(1), Yarn: 1}, api.ErrArg})
		}
	}
	for _, n := range extremes {
		invalid = append(invalid, struct {
			o    operations.Op
			want api.Errno
		}{operations.Op{Kind: operations.Rack, Rack: n}, api.ErrRack}, struct {
			o    operations.Op
			want api.Errno
		}{operations.Op{Kind: operations.Drop, Needle: front(n)}, api.ErrArg})
	}
	for _, s := range []machines.State{machines.Start(), rich(t)} {
		for _, c := range invalid {
			expectStep(t, s, c.o, machines.State{}, c.want)
			expectRun(t, s, append(program(t, "rack 1; rack 0"), c.o, op(t, "drop f40")), machines.State{}, 2, c.want)
			expectRun(t, s, append(program(t, "rack 1; drop f40"), c.o), machines.State{}, 1, api.ErrEmpty)
		}
	}
}

// random returns a function that returns numbers from 0 on, below a limit.
func random(k int) func(below int) int {
	state := uint32(k)*2654435761 + 1
	return func(below int) int {
		state = state*1664525 + 1013904223
		return int(state>>16) % below
	}
}

// someOp returns a valid operation on one of the first needles and yarns.
func someOp(random func(int) int, width, colours int) operations.Op {
	n := api.Needle{Bed: api.Bed(random(2)), At: 1 + random(width)}
	d, y := api.Dir(random(2)), uint8(1+random(colours))
	switch k := random(30); {
	case k < 2:
		return operations.Op{Kind: operations.In, Dir: d, Yarn: y}
	case k < 3:
		return operations.Op{Kind: operations.Out, Yarn: y}
	case k < 8:
		return operations.Op{Kind: operations.Rack, Rack: random(2*maxRack+1) - maxRack}
	case k < 20:
		return operations.Op{Kind: operations.Knit + operations.Kind(random(3)), Dir: d, Needle: n, Yarn: y}
	case k < 29:
		return operations.Op{Kind: operations.Xfer, Needle: n}
	}
	return operations.Op{Kind: operations.Drop, Needle: n}
}

// walk returns the operations that ran of some, and the states before and behind them.
func walk(t *testing.T, k, steps, width, colours int) ([]operations.Op, []machines.State) {
	t.Helper()
	random := random(k)
	s := machines.Start()
	states := []machines.State{s}
	var done []operations.Op
	for range steps {
		o := someOp(random, width, colours)
		next, e := expectLike(t, s, o)
		if e == api.OK {
			done, states = append(done, o), append(states, next)
		}
		s = next
	}
	return done, states
}

// P8.2, P8.3, P8.4: long programs, compared with the model, and Run and Make with Step.
func TestWalks(t *testing.T) {
	for k := range 150 {
		width, colours := 2+k%5, 1+k%maxYarn
		if k%10 == 9 {
			width = maxNeedle
		}
		l, states := walk(t, k, 150, width, colours)
		last := len(states) - 1
		for i, s := range states {
			if i%7 != 0 && i != last {
				continue
			}
			expectRun(t, machines.Start(), l[:i], s, i, api.OK)
			expectRun(t, s, l[i:], states[last], last-i, api.OK)
			if f, e := machines.Make(l[:i]); !fabrics.Same(f, s.Fabric) || e != api.OK {
				t.Errorf("Make of %d operations = %v, %d, expected %v", i, f, e, s.Fabric)
			}
			stop := append(slices.Clone(l[:i]), operations.Op{Kind: operations.Rack, Rack: 9})
			expectRun(t, machines.Start(), append(stop, l[i:]...), machines.State{}, i, api.ErrRack)
		}
	}
}

// P8.2: all programs of these operations, up to a length, compared with the model.
func TestAllPrograms(t *testing.T) {
	for _, c := range []struct {
		begin, with string
		length      int
	}{
		{"", "in 1 left; in 1 right; out 1; knit right f1 1; knit left f1 1; tuck right b1 1; tuck left b1 1; miss right f1 1; xfer f1; xfer b1; drop f1; rack 0; rack 1", 5},
		{"in 1 left; in 2 right; knit right f2 1; knit left f3 2", "knit right f3 1; knit left f2 1; tuck left f2 2; tuck right f3 2; miss left f1 1; miss right f4 2; xfer f2; xfer b2; xfer f3; xfer b3; rack -1; rack 0; rack 2; drop f3; out 2", 4},
	} {
		with := program(t, c.with)
		runs := 0
		var grow func(s machines.State, left int)
		grow = func(s machines.State, left int) {
			for _, o := range with {
				next, e := expectLike(t, s, o)
				if e == api.OK {
					runs++
					if left > 1 {
						grow(next, left-1)
					}
				}
			}
		}
		grow(run(t, c.begin), c.length)
		if runs < 1000 {
			t.Errorf("%q: only %d programs run", c.with, runs)
		}
	}
}

// backAndForth returns a program of so many operations that knits n loops on some needles, and then misses.
func backAndForth(width, n, count int) []operations.Op {
	l := []operations.Op{{Kind: operations.In, Yarn: 1}}
	for i := range count - 1 {
		o := operations.Op{Kind: operations.Knit, Dir: api.Right, Needle: front(1 + i%width), Yarn: 1}
		if i >= n {
			o.Kind = operations.Miss
		}
		if i/width%2 == 1 {
			o.Dir, o.Needle = api.Left, front(width-i%width)
		}
		l = append(l, o)
	}
	return l
}

// P8.3, P8.4: as many operations as possible, and one more.
func TestMaxOps(t *testing.T) {
	racks := make([]operations.Op, maxOps)
	for i := range racks {
		racks[i] = operations.Op{Kind: operations.Rack, Rack: i % 5}
	}
	end := machines.Start()
	end.Rack = (maxOps - 1) % 5
	expectRun(t, machines.Start(), racks, end, maxOps, api.OK)
	for _, l := range [][]operations.Op{append(racks, op(t, "rack 0")), make([]operations.Op, maxOps+1), make([]operations.Op, 2*maxOps)} {
		for _, s := range []machines.State{machines.Start(), rich(t), {}, {Rack: 9}} {
			expectRun(t, s, l, machines.State{}, 0, api.ErrLimit)
		}
		if f, e := machines.Make(l); e != api.ErrLimit || fmt.Sprint(f) != fmt.Sprint(fabrics.Fabric{}) {
			t.Errorf("Make of too many operations = %v, %d", f, e)
		}
	}
	long := backAndForth(10, maxLoops, maxOps)
	s, n, e := machines.Run(machines.Start(), long)
	if n != maxOps || e != api.OK || s.Yarns[0].Count != maxLoops || machines.Check(s) != api.OK {
		t.Errorf("Run of a long program = %d, %d", n, e)
	}
	expectTightState(t, "Run of a long program", s)
}

// P8.3: Run without operations returns the state; its errors have the index 0.
func TestNoOperations(t *testing.T) {
	for _, s := range []machines.State{machines.Start(), rich(t)} {
		expectRun(t, s, nil, s, 0, api.OK)
		expectRun(t, s, []operations.Op{}, s, 0, api.OK)
	}
	f, e := machines.Make(nil)
	if !fabrics.Same(f, fabrics.Empty()) || e != api.OK {
		t.Errorf("Make of nothing = %v, %d", f, e)
	}
}

// P8.2, R2: the limit of the loops, of one yarn and of all together, comes behind a full needle.
func TestMaxLoops(t *testing.T) {
	one, _, e := machines.Run(machines.Start(), backAndForth(32, maxLoops, maxLoops+1))
	if e != api.OK {
		t.Fatalf("as many loops as possible: %d", e)
	}
	// Two yarns have all loops, so that none of them has as many as possible.
	two, _, e := machines.Run(machines.Start(), backAndForth(32, maxLoops-4, maxLoops-3))
	if e != api.OK {
		t.Fatalf("nearly as many loops as possible: %d", e)
	}
	two = runFrom(t, two, "in 2 right; tuck left f40 2; tuck right f40 2; tuck left f40 2; tuck right f40 2; in 3 right")
	for i, s := range []machines.State{one, two} {
		if got := loops.Count(s.Fabric.Yarns); got != maxLoops {
			t.Fatalf("%d loops", got)
		}
		for _, text := range []string{"knit right f40 1", "tuck right b40 1", "knit right f39 1"} {
			expectError(t, s, text, api.ErrLimit)
		}
		if i == 1 {
			for _, text := range []string{"knit left f40 3", "tuck left b40 3", "knit left f40 2", "tuck left f1 2"} {
				expectError(t, s, text, api.ErrLimit)
			}
			expectError(t, s, "tuck left f40 3", api.ErrFull)
			expectError(t, s, "tuck left f40 2", api.ErrFull)
			expectError(t, s, "tuck right f40 1", api.ErrFull)
			expectError(t, s, "tuck right f40 2", api.ErrYarn)
		}
		for _, text := range []string{"miss right f40 1", "out 1", "xfer f9", "rack 4", "drop f9", "in 4 left"} {
			expectLike(t, s, op(t, text))
		}
	}
}

// tangled returns a state whose first carrier has n pending passes of 1.0, to the right, at the place 11 between 1.0 and a full needle with the loops 2.0 to 2.3.
func tangled(t *testing.T, n int) machines.State {
	t.Helper()
	s := run(t, "in 2 right; tuck left f3 2; tuck right f3 2; tuck left f3 2; tuck right f3 2; miss right f9 2; in 1 left; knit right f1 1; miss right f2 1")
	s.Yarns[0].Pending = slices.Repeat([]yarns.Pass{pass(id(1, 0), api.Right)}, n)
	if e := machines.Check(s); e != api.OK {
		t.Fatalf("Check = %d", e)
	}
	return s
}

// P8.2: the limit of the passes that are pending, on the way and when the rack is moved; it comes before a full needle.
func TestMaxPending(t *testing.T) {
	most := tangled(t, maxPending)
	for _, text := range []string{"knit right f3 1", "knit right b3 1", "knit left b2 1", "miss right f2 1"} {
		_, e := expectLike(t, most, op(t, text))
		if want := map[bool]api.Errno{true: api.OK, false: api.ErrYarn}[text != "miss right f2 1"]; e != want {
			t.Errorf("%q = %d, expected %d", text, e, want)
		}
	}
	expectError(t, most, "tuck right f3 1", api.ErrFull)
	for _, text := range []string{"miss right f3 1", "knit right f4 1", "tuck right f4 1", "miss right f40 1"} {
		expectError(t, most, text, api.ErrLimit)
	}
	// To the left the passes become fewer.
	for _, text := range []string{"miss left f1 1", "knit left b1 1"} {
		if _, e := expectLike(t, most, op(t, text)); e != api.OK {
			t.Errorf("%q = %d", text, e)
		}
	}
	for n := maxPending - 5; n < maxPending; n++ {
		want := api.OK
		if n+4 > maxPending {
			want = api.ErrLimit
		}
		for _, text := range []string{"miss right f3 1", "knit right f4 1", "tuck right f5 1"} {
			if _, e := expectLike(t, tangled(t, n), op(t, text)); e != want {
				t.Errorf("%d, %q = %d, expected %d", n, text, e, want)
			}
		}
	}
	// Another needle is full behind the loops on the way.
	crowd := runFrom(t, tangled(t, 0), "in 3 right; tuck left f5 3; tuck right f5 3; tuck left f5 3; tuck right f5 3; miss right f9 3")
	crowd.Yarns[0].Pending = most.Yarns[0].Pending
	expectError(t, crowd, "tuck right f5 1", api.ErrLimit)
	crowd.Yarns[0].Pending = nil
	expectError(t, crowd, "tuck right f5 1", api.ErrFull)
	// A rack brings four loops past the carrier in its second step.
	behind := runFrom(t, tangled(t, 0), "miss left f2 1; xfer f3; rack 1; rack 0; miss right f2 1")
	for _, n := range []int{maxPending - 4, maxPending - 3, maxPending} {
		behind.Yarns[0].Pending = slices.Repeat([]yarns.Pass{before(id(2, 0), api.Right)}, n)
		want := api.OK
		if n+4 > maxPending {
			want = api.ErrLimit
		}
		if _, e := expectLike(t, behind, op(t, "rack -2")); e != want {
			t.Errorf("%d, rack -2 = %d, expected %d", n, e, want)
		}
	}
	behind.Yarns[0].Pending = slices.Repeat([]yarns.Pass{before(id(2, 3), api.Left)}, maxPending)
	for _, text := range []string{"rack -1", "rack -4", "rack 4"} {
		expectLike(t, behind, op(t, text))
	}
}

// P8.2: the limit of the sums of crossings, also in a later step of a rack.
func TestMaxCross(t *testing.T) {
	s := run(t, "in 1 left; knit right f1 1; knit right f2 1; knit right f3 1; out 1; xfer f1; rack 1")
	set := func(b api.Id, n int) machines.State {
		return changed(s, func(s *machines.State) {
			s.Fabric.Crossings = []fabrics.Crossing{{A: id(1, 0), B: b, N: n}}
		})
	}
	for _, n := range []int{-maxCross, 1 - maxCross, -1, 1, maxCross} {
		want := api.OK
		if n == -maxCross {
			want = api.ErrLimit
		}
		for _, text := range []string{"rack 2", "rack 3", "rack 4"} {
			if _, e := expectLike(t, set(id(1, 1), n), op(t, text)); e != want {
				t.Errorf("%d, %q = %d, expected %d", n, text, e, want)
			}
			later := want
			if text == "rack 2" {
				later = api.OK
			}
			if _, e := expectLike(t, set(id(1, 2), n), op(t, text)); e != later {
				t.Errorf("%d, %q = %d, expected %d", n, text, e, later)
			}
		}
	}
	s = runFrom(t, s, "rack 4")
	for _, n := range []int{-maxCross, -1, 1, maxCross - 1, maxCross} {
		want := api.OK
		if n == maxCross {
			want = api.ErrLimit
		}
		for _, text := range []string{"rack 1", "rack -4"} {
			if _, e := expectLike(t, set(id(1, 1), n), op(t, text)); e != want {
				t.Errorf("%d, %q = %d, expected %d", n, text, e, want)
			}
		}
	}
	expectError(t, set(id(1, 1), maxCross+1), "rack 0", api.ErrArg)
}

// P8.2: states that no program leads to, but that are valid: what their carriers have passed need not be there, and
// their first loop need not be New. The errors are those of loops.Add.
func TestStrangeCarriers(t *testing.T) {
	s := run(t, "in 1 left; knit right f1 1; in 2 left; out 1; in 1 left")
	with := func(y int, l ...yarns.Pass) machines.State {
		return changed(s, func(s *machines.State) { s.Yarns[y].Pending = l })
	}
	for _, c := range []struct {
		s    machines.State
		text string
		want api.Errno
	}{
		{with(0, pass(id(1, 0), api.Left)), "knit right f1 1", api.OK},
		{with(0, pass(id(1, 1), api.Left)), "knit right f1 1", api.ErrState},
		{with(0, pass(id(1, 2), api.Left)), "knit right f1 1", api.ErrArg},
		{with(0, pass(id(1, 2047), api.Left)), "tuck right b1 1", api.ErrArg},
		{with(0, pass(id(1, 0), api.Left), before(id(3, 0), api.Right)), "tuck right b1 1", api.ErrArg},
		{with(1, pass(id(2, 0), api.Left)), "knit right f1 2", api.ErrState},
		{with(1, pass(id(2, 0), api.Left)), "knit right f2 2", api.ErrState},
		{with(1, pass(id(2, 1), api.Left)), "knit right b1 2", api.ErrArg},
		{with(1, pass(id(1, 0), api.Left)), "knit right f2 2", api.OK},
		{with(1, pass(id(1, 1), api.Left)), "miss right f1 2", api.OK},
		{with(1, pass(id(1, 1), api.Left)), "out 2", api.OK},
		{with(1, pass(id(1, 1), api.Left)), "rack 4", api.OK},
		{changed(s, func(s *machines.State) { s.Yarns[1].New = false }), "knit right f1 2", api.ErrArg},
		{changed(s, func(s *machines.State) { s.Yarns[1].New = false }), "tuck right f1 2", api.ErrArg},
		{changed(s, func(s *machines.State) { s.Yarns[1].New = false }), "miss right f1 2", api.OK},
		{changed(s, func(s *machines.State) { s.Yarns[0].New = false }), "knit right f1 1", api.OK},
	} {
		expectCheck(t, "a strange state", c.s, api.OK)
		if c.want == api.OK {
			expectLike(t, c.s, op(t, c.text))
		} else {
			expectError(t, c.s, c.text, c.want)
		}
	}
	// What the way to the needle cancels is not past the loop.
	next := runFrom(t, with(1, pass(id(1, 0), api.Left)), "knit right f2 2")
	if past := next.Fabric.Yarns[1][0].Past; len(past) != 0 {
		t.Errorf("past: %v", past)
	}
}

// P8.5: behind each step the state is valid, and each loop is held, has fallen, or has one loop through it.
func TestEachLoopIsSomewhere(t *testing.T) {
	for k := range 40 {
		_, states := walk(t, 1000+k, 120, 2+k%5, 1+k%4)
		for _, s := range states {
			places := map[api.Id]int{}
			for _, own := range s.Fabric.Yarns {
				for _, l := range own {
					for _, name := range l.Through {
						places[name]++
					}
				}
			}
			for _, name := range slices.Concat(s.Fabric.Held, s.Fabric.Fallen) {
				places[name]++
			}
			for y, own := range s.Fabric.Yarns {
				for n := range own {
					if name := id(uint8(y+1), n); places[name] != 1 {
						t.Errorf("%v is in %d places in %v", name, places[name], s)
					}
					delete(places, id(uint8(y+1), n))
				}
			}
			if len(places) > 0 || machines.Check(s) != api.OK {
				t.Errorf("%v: %v, %d", s, places, machines.Check(s))
			}
			expectTightState(t, "behind a step", s)
		}
	}
}

// thereAndBack checks that two programs that run, one behind the other, change nothing, and returns whether they run.
func thereAndBack(t *testing.T, s machines.State, there, back operations.Op) bool {
	t.Helper()
	got, _, e := machines.Run(s, []operations.Op{there, back})
	if e != api.OK {
		return false
	}
	if !machines.Same(got, s) || !equal(got, s) {
		t.Errorf("%v, %v: from %v to %v", there, back, s, got)
	}
	return true
}

// P8.5: what changes nothing.
func TestThereAndBack(t *testing.T) {
	var missed, racked, moved int
	for k := range 25 {
		_, states := walk(t, 2000+k, 100, 3+k%4, 1+k%5)
		for i := len(states) - 1; i >= 0; i -= 3 {
			s := states[i]
			for rack := -maxRack; rack <= maxRack; rack++ {
				if !thereAndBack(t, s, operations.Op{Kind: operations.Rack, Rack: rack}, operations.Op{Kind: operations.Rack, Rack: s.Rack}) {
					t.Errorf("rack %d and back has an error", rack)
				}
				racked++
			}
			for at := 1; at <= maxNeedle; at++ {
				for _, n := range []api.Needle{front(at), back(at)} {
					missed += missBothWays(t, s, n)
					other := api.Needle{Bed: 1 - n.Bed, At: n.At + s.Rack*(2*int(n.Bed)-1)}
					if len(modelOf(s).stacks[other]) > 0 {
						continue
					}
					if thereAndBack(t, s, operations.Op{Kind: operations.Xfer, Needle: n}, operations.Op{Kind: operations.Xfer, Needle: other}) {
						moved++
					}
				}
			}
		}
	}
	if missed < 300 || racked < 1000 || moved < 300 {
		t.Errorf("only %d, %d, %d", missed, racked, moved)
	}
}

// missBothWays lets each carrier that stands right before a needle go past it and back, and returns how many there are.
func missBothWays(t *testing.T, s machines.State, n api.Needle) int {
	t.Helper()
	count := 0
	for i, y := range s.Yarns {
		for d, from := range []int{api.Left: 1, api.Right: -1} {
			if !y.In || y.Place != spotOf(n, s.Rack)+from {
				continue
			}
			there := operations.Op{Kind: operations.Miss, Dir: api.Dir(d), Needle: n, Yarn: uint8(i + 1)}
			again := there
			again.Dir = 1 - there.Dir
			if !thereAndBack(t, s, there, again) {
				t.Errorf("%v and back has an error in %v", there, s)
			}
			count++
		}
	}
	return count
}

// P8.5: an In or Out and an operation of another yarn, or of none, can be exchanged if both orders run.
func TestExchange(t *testing.T) {
	exchanged := 0
	for k := range 20 {
		_, states := walk(t, 3000+k, 80, 2+k%3, 1+k%3)
		random := random(k)
		for i := len(states) - 1; i >= 0; i -= 5 {
			for y := uint8(1); y <= 4; y++ {
				for _, text := range []string{"in " + strconv.Itoa(int(y)) + " left", "in " + strconv.Itoa(int(y)) + " right", "out " + strconv.Itoa(int(y))} {
					a, b := op(t, text), someOp(random, 4, 4)
					if b.Yarn == y {
						continue
					}
					one, _, e := machines.Run(states[i], []operations.Op{a, b})
					two, _, f := machines.Run(states[i], []operations.Op{b, a})
					if e != api.OK || f != api.OK {
						continue
					}
					exchanged++
					if !machines.Same(one, two) {
						t.Errorf("%v and %v cannot be exchanged in %v", a, b, states[i])
					}
				}
			}
		}
	}
	if exchanged < 200 {
		t.Errorf("only %d were exchanged", exchanged)
	}
}

// spoil changes everything in a state.
func spoil(s machines.State) {
	for _, bed := range [][][]api.Id{s.Beds.Front, s.Beds.Back} {
		for _, l := range bed {
			clear(l)
		}
		clear(bed)
	}
	for _, y := range s.Yarns {
		clear(y.Pending)
	}
	clear(s.Yarns)
	spoilFabric(s.Fabric)
}

func spoilFabric(f fabrics.Fabric) {
	for _, own := range f.Yarns {
		for _, l := range own {
			clear(l.Through)
			clear(l.Past)
		}
		clear(own)
	}
	clear(f.Yarns)
	clear(f.Crossings)
	clear(f.Held)
	clear(f.Fallen)
}

// R1, R4: arguments stay as they are, also behind their ends, and results share no memory with them, or with each other.
func TestMemory(t *testing.T) {
	programs := [][]operations.Op{{{Kind: operations.Rack, Rack: 5}}, {{}}}
	for _, text := range []string{
		"", "rack 2", "rack 4", "rack -4", "in 5 left", "out 1", "knit left f3 1", "knit left f4 1", "tuck left f3 1", "miss left f1 1", "knit left b1 3", "drop f2",
		"drop b1", "xfer f5", "xfer b1", "knit left b2 2", "drop f40",
		"knit left f3 1; tuck right f3 1; drop f3; rack 0; xfer b1; out 2; in 2 left; knit right f9 2",
	} {
		programs = append(programs, program(t, text))
	}
	for _, l := range programs {
		s, given := deep(rich(t), 3), slices.Clone(l)
		before := showAll(s)
		got, _, e := machines.Run(s, l)
		want := machines.State{}
		if m := modelOf(s); e == api.OK {
			for _, o := range l {
				m.do(o)
			}
			want = deep(m.state(), 0)
		}
		machines.Check(s)
		machines.Same(s, s)
		if len(l) == 1 {
			machines.Step(s, l[0])
		}
		if showAll(s) != before || !slices.Equal(l, given) {
			t.Errorf("%v: the argument has changed to %v", l, s)
		}
		spoil(s)
		if !equal(got, want) {
			t.Errorf("%v: %v, expected %v, when the argument is spoiled", l, got, want)
		}
		s = deep(rich(t), 3)
		again, _, _ := machines.Run(s, l)
		spoil(got)
		if !equal(again, want) || showAll(s) != before {
			t.Errorf("%v: results share memory with each other, or with the argument", l)
		}
		spoil(again)
		if showAll(s) != before {
			t.Errorf("%v: the argument has changed with the result", l)
		}
	}
	l := program(t, "in 1 left; knit right f1 1; knit right f2 1; knit left f2 1")
	f, _ := machines.Make(l)
	spoilFabric(f)
	if again, _ := machines.Make(l); fabrics.Text(again) == "" {
		t.Error("results of Make share memory")
	}
}

// R1, R4: slices that share memory in an argument, or are parts of each other, do not share it in the result.
func TestPartsAreTheirOwn(t *testing.T) {
	s := run(t, "in 1 left; in 2 left; knit right f1 1; knit right f2 1; miss left f1 1; knit right f3 2; miss left f1 2")
	held := s.Fabric.Held
	s.Beds.Front = [][]api.Id{held[:1], held[1:2], held[2:3]}
	s.Yarns[1].Pending = s.Yarns[0].Pending
	want := deep(s, 0)
	for _, o := range []operations.Op{op(t, "rack 0"), op(t, "drop f3"), op(t, "in 3 left"), op(t, "knit right f3 1")} {
		got, e := expectLike(t, s, o)
		if e != api.OK {
			t.Fatalf("%v: %d", o, e)
		}
		shown := changed(got)
		got.Beds.Front[0][0] = id(9, 9)
		got.Fabric.Held[1] = id(9, 8)
		got.Yarns[1].Pending[0].Id = id(9, 7)
		if equal(got, shown) || shown.Fabric.Held[0] != got.Fabric.Held[0] || shown.Beds.Front[1][0] != got.Beds.Front[1][0] ||
			len(got.Yarns[0].Pending) > 0 && got.Yarns[0].Pending[0] != shown.Yarns[0].Pending[0] || !equal(s, want) {
			t.Errorf("%v: parts of a result share memory: %v", o, got)
		}
	}
}
