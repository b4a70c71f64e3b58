package machines_test

import (
	"fmt"
	"math"
	"slices"
	"strconv"
	"strings"
	"testing"

	"gansey/api"
	"gansey/fabrics"
	"gansey/loops"
	"gansey/machines"
	"gansey/operations"
	"gansey/stacks"
	"gansey/yarns"
)

const (
	maxNeedle, maxRack, maxYarn, maxStack  = 40, 4, 6, 4
	maxOps, maxLoops, maxPending, maxCross = 4096, 2048, 4096, 1048576
	leftEnd, rightEnd                      = -13, 179
)

// extremes are numbers that are no rack, place, number of a needle or of a loop.
var extremes = []int{
	math.MinInt, math.MinInt + 1, math.MinInt32, -1 << 16, -256, -41,
	1 << 16, 1<<16 + 1, math.MaxInt32, 1 << 32, 1<<32 + 1, 1 << 62, math.MaxInt - 1, math.MaxInt,
}

// id returns the name y.n of the chapter's examples.
func id(y uint8, n int) api.Id { return api.Id{Yarn: y, N: n} }

func ids(l ...api.Id) []api.Id { return l }

func front(at int) api.Needle { return api.Needle{Bed: api.Front, At: at} }

func back(at int) api.Needle { return api.Needle{Bed: api.Back, At: at} }

// compare is the order of names.
func compare(a, b api.Id) int {
	switch {
	case a.Yarn < b.Yarn || a.Yarn == b.Yarn && a.N < b.N:
		return -1
	case a == b:
		return 0
	}
	return 1
}

// program reads operations, which are separated by semicolons.
func program(t *testing.T, text string) []operations.Op {
	t.Helper()
	l, line, e := operations.Program(strings.ReplaceAll(text, ";", "\n"))
	if e != api.OK {
		t.Fatalf("%q: operation %d: %d", text, line, e)
	}
	return l
}

// op reads one operation.
func op(t *testing.T, text string) operations.Op {
	t.Helper()
	return program(t, text)[0]
}

// run returns the state behind a program that runs.
func run(t *testing.T, text string) machines.State {
	t.Helper()
	return runFrom(t, machines.Start(), text)
}

func runFrom(t *testing.T, s machines.State, text string) machines.State {
	t.Helper()
	l := program(t, text)
	next, n, e := machines.Run(s, l)
	if n != len(l) || e != api.OK {
		t.Fatalf("Run(%q) = %d, %d, expected %d, 0", text, n, e, len(l))
	}
	return next
}

// show formats all of a state; nil slices and empty ones look the same.
func show(s machines.State) string { return fmt.Sprint(s) }

func equal(a, b machines.State) bool { return show(a) == show(b) }

// deep copies a state; room is how much memory its slices have behind their ends.
func deep(s machines.State, room int) machines.State {
	s.Beds.Front, s.Beds.Back = deepBed(s.Beds.Front, room), deepBed(s.Beds.Back, room)
	s.Yarns = roomy(s.Yarns, room)
	for i := range s.Yarns {
		s.Yarns[i].Pending = roomy(s.Yarns[i].Pending, room)
	}
	s.Fabric.Yarns = roomy(s.Fabric.Yarns, room)
	for i := range s.Fabric.Yarns {
		own := roomy(s.Fabric.Yarns[i], room)
		for n := range own {
			own[n].Through, own[n].Past = roomy(own[n].Through, room), roomy(own[n].Past, room)
		}
		s.Fabric.Yarns[i] = own
	}
	s.Fabric.Crossings = roomy(s.Fabric.Crossings, room)
	s.Fabric.Held, s.Fabric.Fallen = roomy(s.Fabric.Held, room), roomy(s.Fabric.Fallen, room)
	return s
}

func deepBed(bed [][]api.Id, room int) [][]api.Id {
	bed = roomy(bed, room)
	for i := range bed {
		bed[i] = roomy(bed[i], room)
	}
	return bed
}

func roomy[S ~[]T, T any](l S, room int) S { return append(make(S, 0, len(l)+room), l...) }

// showAll formats all of a state, with what is behind the ends of its slices.
func showAll(s machines.State) string {
	s = deepEnds(s)
	return show(s)
}

// deepEnds copies a state with what is behind the ends of its slices.
func deepEnds(s machines.State) machines.State {
	s.Beds.Front, s.Beds.Back = bedEnds(s.Beds.Front), bedEnds(s.Beds.Back)
	s.Yarns = ends(s.Yarns)
	for i := range s.Yarns {
		s.Yarns[i].Pending = ends(s.Yarns[i].Pending)
	}
	s.Fabric.Yarns = ends(s.Fabric.Yarns)
	for i := range s.Fabric.Yarns {
		own := ends(s.Fabric.Yarns[i])
		for n := range own {
			own[n].Through, own[n].Past = ends(own[n].Through), ends(own[n].Past)
		}
		s.Fabric.Yarns[i] = own
	}
	s.Fabric.Crossings = ends(s.Fabric.Crossings)
	s.Fabric.Held, s.Fabric.Fallen = ends(s.Fabric.Held), ends(s.Fabric.Fallen)
	return s
}

func bedEnds(bed [][]api.Id) [][]api.Id {
	bed = ends(bed)
	for i := range bed {
		bed[i] = ends(bed[i])
	}
	return bed
}

func ends[S ~[]T, T any](l S) S { return slices.Clone(l[:cap(l)]) }

// changed returns a copy of a state that is changed.
func changed(s machines.State, changes ...func(*machines.State)) machines.State {
	out := deep(s, 0)
	for _, change := range changes {
		change(&out)
	}
	return out
}

func expectState(t *testing.T, what string, got, want machines.State) {
	t.Helper()
	if !equal(got, want) {
		t.Errorf("%s: %s, expected %s", what, show(got), show(want))
	}
	expectTightState(t, what, got)
}

// expectTight checks R4: the capacity of what is returned.
func expectTight[S ~[]T, T any](t *testing.T, what string, l S) {
	t.Helper()
	if len(l) != cap(l) {
		t.Errorf("%s: length %d, capacity %d", what, len(l), cap(l))
	}
}

func expectTightState(t *testing.T, what string, s machines.State) {
	t.Helper()
	for _, bed := range [][][]api.Id{s.Beds.Front, s.Beds.Back} {
		expectTight(t, what+", a bed", bed)
		for _, l := range bed {
			expectTight(t, what+", a stack", l)
		}
		if len(bed) > 0 && len(bed[len(bed)-1]) == 0 {
			t.Errorf("%s: the beds are not short: %v", what, bed)
		}
	}
	expectTight(t, what+", Yarns", s.Yarns)
	for _, y := range s.Yarns {
		expectTight(t, what+", Pending", y.Pending)
	}
	expectTightFabric(t, what, s.Fabric)
}

func expectTightFabric(t *testing.T, what string, f fabrics.Fabric) {
	t.Helper()
	expectTight(t, what+", Fabric.Yarns", f.Yarns)
	for _, own := range f.Yarns {
		expectTight(t, what+", the loops of a yarn", own)
		for _, l := range own {
			expectTight(t, what+", Through", l.Through)
			expectTight(t, what+", Past", l.Past)
		}
	}
	expectTight(t, what+", Crossings", f.Crossings)
	expectTight(t, what+", Held", f.Held)
	expectTight(t, what+", Fallen", f.Fallen)
}

// expectStep checks what Step, and Run of the one operation, return.
func expectStep(t *testing.T, s machines.State, o operations.Op, want machines.State, we api.Errno) {
	t.Helper()
	what := fmt.Sprintf("Step(%v, %v)", s, o)
	got, e := machines.Step(s, o)
	if e != we {
		t.Errorf("%s: error %d, expected %d", what, e, we)
	}
	expectState(t, what, got, want)
	expectRun(t, s, []operations.Op{o}, want, btoi(we == api.OK), we)
}

// expectError checks that an operation has an error.
func expectError(t *testing.T, s machines.State, text string, want api.Errno) {
	t.Helper()
	expectStep(t, s, op(t, text), machines.State{}, want)
}

func expectRun(t *testing.T, s machines.State, l []operations.Op, want machines.State, wn int, we api.Errno) {
	t.Helper()
	got, n, e := machines.Run(s, l)
	if n != wn || e != we {
		t.Errorf("Run of %d operations = %d, %d, expected %d, %d", len(l), n, e, wn, we)
	}
	expectState(t, "Run", got, want)
}

// expectMake checks what Make returns, and Run from the start.
func expectMake(t *testing.T, text string, want ...string) machines.State {
	t.Helper()
	f, e := machines.Make(program(t, text))
	lines := ""
	for _, line := range want {
		lines += line + "\n"
	}
	if got := fabrics.Text(f); got != lines || e != api.OK {
		t.Errorf("Make(%q) = %q, %d, expected %q", text, got, e, lines)
	}
	expectTightFabric(t, "Make", f)
	s := run(t, text)
	if !fabrics.Same(s.Fabric, f) {
		t.Errorf("Run(%q) makes %v, Make %v", text, s.Fabric, f)
	}
	return s
}

// The examples of the chapter.
func TestExamples(t *testing.T) {
	expectMake(t, "in 1 left; knit right f1 1; knit right f2 1; knit left f2 1; knit left f1 1",
		"1.0 front new", "1.1 front", "1.2 front through 1.1", "1.3 front through 1.0", "held 1.3 1.2")
	s := expectMake(t, "in 1 left; knit right f1 1; xfer f1; rack 1; xfer b1; rack 0", "1.0 front new", "held 1.0")
	if n, e := stacks.Find(s.Beds, id(1, 0)); n != front(2) || e != api.OK {
		t.Errorf("1.0 is held by %v, %d", n, e)
	}
	if !slices.Equal(s.Yarns[0].Pending, []yarns.Pass{{Id: id(1, 0), Front: true, Dir: api.Left}}) {
		t.Errorf("pending: %v", s.Yarns[0].Pending)
	}
	s = expectMake(t, "in 1 left; knit right f1 1; knit right f2 1; miss right f40 1; xfer f1; rack 1; rack 2; xfer b1",
		"1.0 front new", "1.1 front", "cross 1.0 1.1 -1", "held 1.1 1.0")
	if n, e := stacks.Find(s.Beds, id(1, 0)); n != front(3) || e != api.OK {
		t.Errorf("1.0 is held by %v, %d", n, e)
	}
	for _, c := range []struct {
		text  string
		index int
		want  api.Errno
	}{
		{"knit right f1 1", 0, api.ErrYarn}, {"xfer f1", 0, api.ErrEmpty}, {"in 1 left; rack 0; in 1 right", 2, api.ErrYarn},
	} {
		l := program(t, c.text)
		expectRun(t, machines.Start(), l, machines.State{}, c.index, c.want)
		if f, e := machines.Make(l); e != c.want || fmt.Sprint(f) != fmt.Sprint(fabrics.Fabric{}) {
			t.Errorf("Make(%q) = %v, %d, expected %d", c.text, f, e, c.want)
		}
	}
}

// P8.1: the start is valid, and new memory each time.
func TestStart(t *testing.T) {
	want := machines.State{Yarns: make([]yarns.Yarn, maxYarn), Fabric: fabrics.Fabric{Yarns: make(loops.Table, maxYarn)}}
	s := machines.Start()
	expectState(t, "Start", s, want)
	expectCheck(t, "Start", s, api.OK)
	s.Yarns[2].Count = 7
	s.Fabric.Yarns[2] = []loops.Loop{{New: true}}
	expectState(t, "Start", machines.Start(), want)
}

// expectCheck checks what Check returns; if that is an error, Step and Run return it, too.
func expectCheck(t *testing.T, what string, s machines.State, want api.Errno) {
	t.Helper()
	if e := machines.Check(s); e != want {
		t.Errorf("%s: Check(%v) = %d, expected %d", what, s, e, want)
	}
	if want == api.OK {
		return
	}
	for _, o := range []operations.Op{op(t, "rack 0"), op(t, "xfer f40"), op(t, "in 6 left"), {}, {Kind: operations.Rack, Rack: 5}} {
		expectStep(t, s, o, machines.State{}, want)
	}
	expectRun(t, s, nil, machines.State{}, 0, want)
	expectRun(t, s, program(t, "rack 1; rack 2; out 6"), machines.State{}, 0, want)
	expectRun(t, s, make([]operations.Op, maxOps), machines.State{}, 0, want)
	expectRun(t, s, make([]operations.Op, maxOps+1), machines.State{}, 0, api.ErrLimit)
}

// rich returns a state that has some of everything: loops on both beds and on each other, crossings, what has fallen, and what is pending.
func rich(t *testing.T) machines.State {
	t.Helper()
	return expectMake(t, richProgram,
		"1.0 front new", "1.1 front", "1.2 front through 1.1", "1.3 front past 1.2>", "2.0 front new", "2.1 front", "2.2 back",
		"3.0 back new through 1.0 past 1.2>", "cross 1.0 1.2 -1", "held 1.2 3.0 1.3 2.2 2.1", "fallen 2.0")
}

const richProgram = "in 1 left; knit right f1 1; knit right f2 1; knit left f2 1; knit right f3 1; miss right f20 1; xfer f1; rack 1; rack 2;" +
	"in 2 right; knit left f9 2; drop f9; tuck left f5 2; tuck left b2 2; in 3 left; knit right b1 3; miss right f30 3; in 4 right"

// P8.1, P8.3: what a state has besides its fabric.
func TestRich(t *testing.T) {
	s := rich(t)
	expectCheck(t, "rich", s, api.OK)
	want := changed(s, func(s *machines.State) {
		s.Rack = 2
		s.Beds.Front = [][]api.Id{nil, {id(1, 2)}, {id(1, 3)}, nil, {id(2, 1)}}
		s.Beds.Back = [][]api.Id{{id(3, 0)}, {id(2, 2)}}
		s.Yarns = []yarns.Yarn{
			{In: true, Place: 83, Count: 4}, {In: true, Place: 15, Count: 3},
			{In: true, Place: 123, Count: 1, Pending: []yarns.Pass{
				{Id: id(1, 3), Dir: api.Right}, {Id: id(2, 2), Front: true, Dir: api.Right}, {Id: id(2, 1), Dir: api.Right},
			}},
			{In: true, Place: rightEnd, New: true}, {}, {},
		}
	})
	expectState(t, "rich", s, want)
}

// others are changes that make a state another valid one.
func others() []func(*machines.State) {
	return []func(*machines.State){
		func(s *machines.State) { s.Yarns[0].Place = 81 },
		func(s *machines.State) { s.Yarns[3].New = false },
		func(s *machines.State) { s.Yarns[0].Pending = []yarns.Pass{{Id: id(1, 2)}} },
		func(s *machines.State) { s.Yarns[2].Pending[1].Front = false },
		func(s *machines.State) { s.Yarns[2].Pending[1].Dir = api.Left },
		func(s *machines.State) { s.Yarns[2].Pending[2].Id.N = 0 },
		func(s *machines.State) { s.Yarns[2].Pending[2].Id = id(6, 2047) },
		func(s *machines.State) { s.Yarns[2].Pending = s.Yarns[2].Pending[:2] },
		func(s *machines.State) { s.Yarns[2].Pending = nil },
		func(s *machines.State) { s.Yarns[2] = yarns.Yarn{Count: 1} },
		func(s *machines.State) { s.Yarns[5] = yarns.Yarn{In: true, Place: 1} },
		func(s *machines.State) { s.Yarns[0], s.Yarns[5] = yarns.Yarn{Count: 4}, s.Yarns[3] },
		func(s *machines.State) { s.Rack, s.Beds.Back = 1, slices.Concat([][]api.Id{nil}, s.Beds.Back) },
		func(s *machines.State) { s.Beds.Front[3], s.Beds.Front[4] = s.Beds.Front[4], nil },
		func(s *machines.State) {
			s.Beds.Front, s.Beds.Back = [][]api.Id{slices.Clone(s.Fabric.Held[:4])}, [][]api.Id{{id(2, 1)}}
		},
		func(s *machines.State) { s.Fabric.Crossings[0].N = maxCross },
		func(s *machines.State) { s.Fabric.Crossings[0].A = id(1, 1) },
		func(s *machines.State) { s.Fabric.Crossings = nil },
		func(s *machines.State) { s.Fabric.Yarns[0][0].Bed = api.Back },
		func(s *machines.State) { s.Fabric.Yarns[1][1].New = true },
		func(s *machines.State) { s.Fabric.Yarns[0][3].Past[0].Front = true },
		func(s *machines.State) {
			s.Fabric.Yarns[2][0].Through = nil
			s.Fabric.Fallen = ids(id(1, 0), id(2, 0))
		},
	}
}

// P8.1: states that differ in one thing are valid each, but not the same.
func TestSame(t *testing.T) {
	base := rich(t)
	all := []machines.State{base, machines.Start(), {}}
	for _, change := range others() {
		s := changed(base, change)
		expectCheck(t, "another valid state", s, api.OK)
		all = append(all, s)
	}
	for _, c := range wrong() {
		all = append(all, changed(base, c.change))
	}
	for i, a := range all {
		for j, b := range all {
			if got := machines.Same(a, b); got != (i == j) {
				t.Errorf("Same of the states %d and %d is %v", i, j, got)
			}
		}
		if !machines.Same(a, deep(a, 2)) {
			t.Errorf("the state %d is not the same as its copy", i)
		}
	}
}

// P8.1, R3: beds that are not short, and empty slices instead of nil.
func TestSameBesideLength(t *testing.T) {
	base := rich(t)
	long := changed(base, func(s *machines.State) {
		s.Beds.Front = slices.Concat(s.Beds.Front, make([][]api.Id, 35))
		s.Beds.Back = slices.Concat(s.Beds.Back, [][]api.Id{{}, nil, {}})
		s.Yarns[0].Pending, s.Yarns[5].Pending = []yarns.Pass{}, []yarns.Pass{}
		s.Fabric.Yarns[0][0].Through, s.Fabric.Yarns[0][0].Past = ids(), []yarns.Pass{}
		s.Fabric.Yarns[5] = []loops.Loop{}
	})
	expectCheck(t, "long beds", long, api.OK)
	if !machines.Same(base, long) || !machines.Same(long, base) {
		t.Error("long beds differ from short ones")
	}
	empty := changed(machines.Start(), func(s *machines.State) {
		s.Beds = stacks.Beds{Front: [][]api.Id{}, Back: [][]api.Id{{}}}
		s.Fabric.Crossings, s.Fabric.Held, s.Fabric.Fallen = []fabrics.Crossing{}, ids(), ids()
	})
	expectCheck(t, "empty slices", empty, api.OK)
	if !machines.Same(machines.Start(), empty) || !machines.Same(empty, machines.Start()) {
		t.Error("empty slices differ from nil")
	}
	for _, s := range []machines.State{long, empty} {
		for _, text := range []string{"rack 0", "in 5 left", "in 6 left; knit right f40 6; drop f40; out 6", ""} {
			runFrom(t, s, text)
			expectRun(t, s, program(t, text), modelRun(t, s, text), len(program(t, text)), api.OK)
		}
	}
}

// modelRun returns what the model makes of a program that runs.
func modelRun(t *testing.T, s machines.State, text string) machines.State {
	t.Helper()
	m := modelOf(s)
	for i, o := range program(t, text) {
		if e := m.do(o); e != api.OK {
			t.Fatalf("%q: the operation %d has the error %d", text, i, e)
		}
	}
	return m.state()
}

// mistake is a change that makes a state one that is not valid.
type mistake struct {
	change func(*machines.State)
	want   api.Errno
}

// wrong are mistakes in the state rich.
func wrong() []mistake {
	l := []mistake{
		{func(s *machines.State) { s.Rack = 5 }, api.ErrRack},
		{func(s *machines.State) { s.Rack = -5 }, api.ErrRack},
		{func(s *machines.State) {
			s.Beds.Front = slices.Concat(s.Beds.Front, make([][]api.Id, 35), [][]api.Id{{id(6, 0)}})
		}, api.ErrFull},
		{func(s *machines.State) { s.Beds.Back[1] = ids(id(2, 2), id(5, 0), id(5, 1), id(5, 2), id(5, 3)) }, api.ErrFull},
		{func(s *machines.State) { s.Beds.Back[1] = ids(id(2, 2), id(7, 0)) }, api.ErrArg},
		{func(s *machines.State) { s.Beds.Front[1] = ids(id(1, 2), id(2, 2)) }, api.ErrThere},
		{func(s *machines.State) { s.Yarns = s.Yarns[:5] }, api.ErrWidth},
		{func(s *machines.State) { s.Yarns = append(s.Yarns, yarns.Yarn{}) }, api.ErrWidth},
		{func(s *machines.State) { s.Yarns = nil }, api.ErrWidth},
		{func(s *machines.State) { s.Yarns[0].Place = 82 }, api.ErrArg},
		{func(s *machines.State) { s.Yarns[5].Place = 1 }, api.ErrArg},
		{func(s *machines.State) { s.Yarns[5].Pending = []yarns.Pass{{Id: id(1, 0)}} }, api.ErrArg},
		{func(s *machines.State) { s.Yarns[5].Count = maxLoops + 1 }, api.ErrArg},
		{func(s *machines.State) { s.Fabric.Yarns = s.Fabric.Yarns[:5] }, api.ErrWidth},
		{func(s *machines.State) { s.Fabric.Yarns = append(s.Fabric.Yarns, nil) }, api.ErrWidth},
		{func(s *machines.State) { s.Fabric.Yarns[5] = make([]loops.Loop, maxLoops) }, api.ErrLimit},
		{func(s *machines.State) { s.Fabric.Yarns[0][0].New = false }, api.ErrArg},
		{func(s *machines.State) { s.Fabric.Yarns[0][3].Through = ids(id(1, 0)) }, api.ErrThere},
		{func(s *machines.State) { s.Fabric.Yarns[0][0].Past = []yarns.Pass{{Id: id(1, 1)}} }, api.ErrState},
		{func(s *machines.State) { s.Fabric.Crossings[0].N = 0 }, api.ErrArg},
		{func(s *machines.State) { s.Fabric.Held[0] = id(6, 0) }, api.ErrNone},
		{func(s *machines.State) { s.Fabric.Fallen = nil }, api.ErrState},
		{func(s *machines.State) { s.Fabric.Held = s.Fabric.Held[1:] }, api.ErrState},
		{func(s *machines.State) { slices.Reverse(s.Fabric.Held) }, api.ErrState},
		{func(s *machines.State) { s.Fabric.Held[1], s.Fabric.Held[2] = s.Fabric.Held[2], s.Fabric.Held[1] }, api.ErrState},
		{func(s *machines.State) { s.Rack = 1 }, api.ErrState},
		{func(s *machines.State) { s.Rack = 3 }, api.ErrState},
		{func(s *machines.State) { s.Beds.Front[0], s.Beds.Front[4] = s.Beds.Front[4], nil }, api.ErrState},
		{func(s *machines.State) { s.Beds.Back = nil }, api.ErrState},
		{func(s *machines.State) { s.Beds = stacks.Beds{} }, api.ErrState},
		{func(s *machines.State) { s.Beds.Front[3] = ids(id(1, 0)) }, api.ErrState},
		{func(s *machines.State) { s.Beds.Front[3] = ids(id(6, 0)) }, api.ErrState},
		{func(s *machines.State) { s.Beds.Back[0], s.Fabric.Held = nil, slices.Delete(s.Fabric.Held, 1, 2) }, api.ErrState},
		{func(s *machines.State) { s.Yarns[0].Count = 3 }, api.ErrState},
		{func(s *machines.State) { s.Yarns[0].Count = 5 }, api.ErrState},
		{func(s *machines.State) { s.Yarns[5].Count = 1 }, api.ErrState},
		{func(s *machines.State) { s.Yarns[0], s.Yarns[3] = s.Yarns[3], s.Yarns[0] }, api.ErrState},
	}
	for _, n := range extremes {
		l = append(l,
			mistake{func(s *machines.State) { s.Rack = n }, api.ErrRack},
			mistake{func(s *machines.State) { s.Beds.Front[1][0].N = n }, api.ErrArg},
			mistake{func(s *machines.State) { s.Yarns[1].Place = n }, api.ErrArg},
			mistake{func(s *machines.State) { s.Yarns[1].Count = n }, api.ErrArg},
			mistake{func(s *machines.State) { s.Yarns[2].Pending[0].Id.N = n }, api.ErrArg},
			mistake{func(s *machines.State) { s.Fabric.Held[2].N = n }, api.ErrNone},
			mistake{func(s *machines.State) { s.Fabric.Fallen[0].N = n }, api.ErrNone},
			mistake{func(s *machines.State) { s.Fabric.Crossings[0].B.N = n }, api.ErrArg},
			mistake{func(s *machines.State) { s.Fabric.Yarns[2][0].Through[0].N = n }, api.ErrArg},
		)
	}
	return l
}

// P8.1, P8.2, P8.3: each error of Check, with R2's rule that the zero State comes with it.
func TestCheck(t *testing.T) {
	base := rich(t)
	for i, c := range wrong() {
		expectCheck(t, "mistake "+strconv.Itoa(i), changed(base, c.change), c.want)
	}
	expectCheck(t, "nothing", machines.State{}, api.ErrWidth)
}

// P8.1, R2: each error comes before those named behind it, wherever it is.
func TestErrorsInOrder(t *testing.T) {
	base := rich(t)
	mistakes := []mistake{
		{func(s *machines.State) { s.Rack = 5 }, api.ErrRack},
		{func(s *machines.State) { s.Beds.Back[1] = ids(id(2, 2), id(5, 0), id(5, 1), id(5, 2), id(5, 3)) }, api.ErrFull},
		{func(s *machines.State) { s.Beds.Front[1] = append(s.Beds.Front[1], s.Beds.Front[1]...) }, api.ErrThere},
		{func(s *machines.State) { s.Yarns[0].Place = 0 }, api.ErrArg},
		{func(s *machines.State) { s.Fabric.Yarns[5] = make([]loops.Loop, maxLoops) }, api.ErrLimit},
		{func(s *machines.State) { s.Fabric.Crossings[0].N = 0 }, api.ErrArg},
		{func(s *machines.State) { s.Fabric.Fallen[0] = id(6, 7) }, api.ErrNone},
		{func(s *machines.State) { s.Yarns[1].Count = 4 }, api.ErrState},
	}
	for set := range 1 << len(mistakes) {
		s, want := deep(base, 0), api.OK
		for i, c := range mistakes {
			if set>>i&1 == 1 {
				c.change(&s)
				if want == api.OK {
					want = c.want
				}
			}
		}
		if e := machines.Check(s); e != want {
			t.Errorf("set %d: Check = %d, expected %d", set, e, want)
		}
	}
	width := changed(base, func(s *machines.State) { s.Yarns = append(s.Yarns[:3], yarns.Yarn{Place: 3}) })
	width.Fabric.Crossings[0].N = 0
	expectCheck(t, "width before yarns and fabric", width, api.ErrWidth)
}
