package fabrics_test

import (
	"math"
	"slices"
	"strconv"
	"strings"
	"testing"

	"gansey/api"
	"gansey/fabrics"
	"gansey/loops"
	"gansey/yarns"
)

const (
	maxYarn  = 6
	maxLoops = 2048
	maxCross = 1048576
)

// extremes are numbers that a loop of a table cannot have.
var extremes = []int{
	math.MinInt, math.MinInt + 1, math.MinInt32, -1 << 16, -256, -2, -1,
	1 << 16, 1<<16 + 1, math.MaxInt32, 1 << 32, 1<<32 + 1, 1 << 62, math.MaxInt - 1, math.MaxInt,
}

// id returns the name y.n of the chapter's examples.
func id(y uint8, n int) api.Id { return api.Id{Yarn: y, N: n} }

func ids(l ...api.Id) []api.Id { return l }

// pass returns a pass behind a loop.
func pass(name api.Id, d api.Dir) yarns.Pass { return yarns.Pass{Id: name, Dir: d} }

// before returns a pass in front of a loop.
func before(name api.Id, d api.Dir) yarns.Pass { return yarns.Pass{Id: name, Front: true, Dir: d} }

func crossing(a, b api.Id, n int) fabrics.Crossing { return fabrics.Crossing{A: a, B: b, N: n} }

func crossings(l ...fabrics.Crossing) []fabrics.Crossing { return l }

// tableOf returns a table in which the first yarns have these loops.
func tableOf(own ...[]loops.Loop) loops.Table {
	t := make(loops.Table, maxYarn)
	copy(t, own)
	return t
}

// own lists the loops of a yarn.
func own(l ...loops.Loop) []loops.Loop { return l }

// plain returns a loop through others.
func plain(through ...api.Id) loops.Loop { return loops.Loop{Through: through} }

// first returns a New loop through others.
func first(through ...api.Id) loops.Loop { return loops.Loop{New: true, Through: through} }

// run returns loops that need nothing but each other.
func run(n int) []loops.Loop {
	l := make([]loops.Loop, n)
	for i := range l {
		l[i].New = i == 0
	}
	return l
}

// names returns all names of a table, in their order.
func names(t loops.Table) []api.Id {
	var l []api.Id
	for y, own := range t {
		for n := range own {
			l = append(l, id(uint8(y+1), n))
		}
	}
	return l
}

// example returns the fabric of the chapter's examples.
func example() fabrics.Fabric {
	return fabrics.Fabric{
		Yarns: tableOf(own(first(), plain(), loops.Loop{
			Bed: api.Back, Through: ids(id(1, 0)), Past: []yarns.Pass{before(id(1, 1), api.Left)},
		})),
		Crossings: crossings(crossing(id(1, 1), id(1, 2), -1)),
		Held:      ids(id(1, 1), id(1, 2)),
	}
}

// held returns a fabric in which each loop of a table is held.
func held(t loops.Table) fabrics.Fabric { return fabrics.Fabric{Yarns: t, Held: names(t)} }

// mixed returns a valid fabric of n loops; k decides which one.
func mixed(k, n int) fabrics.Fabric {
	state := uint32(k)*2654435761 + 1
	random := func(below int) int {
		state = state*1664525 + 1013904223
		return int(state>>16) % below
	}
	t := make(loops.Table, maxYarn)
	var made, free []api.Id
	for range n {
		y := random(1 + k%maxYarn)
		l := loops.Loop{Bed: api.Bed(random(2)), New: len(t[y]) == 0 || random(4) == 0}
		for range min(len(free), random(4)) {
			i := random(len(free))
			l.Through = append(l.Through, free[i])
			free = slices.Delete(free, i, i+1)
		}
		for range random(4) {
			if len(made) > 0 {
				l.Past = append(l.Past, yarns.Pass{Id: made[random(len(made))], Front: random(2) == 0, Dir: api.Dir(random(2))})
			}
		}
		l.Past = yarns.Reduce(l.Past)
		name := id(uint8(y+1), len(t[y]))
		made, free = append(made, name), append(free, name)
		t[y] = append(t[y], l)
	}
	f := fabrics.Fabric{Yarns: t}
	for _, name := range free {
		if random(3) == 0 {
			f.Fallen = append(f.Fallen, name)
		} else {
			f.Held = slices.Insert(f.Held, random(len(f.Held)+1), name)
		}
	}
	slices.SortFunc(f.Fallen, compare)
	all := names(t)
	for i, a := range all {
		for _, b := range all[i+1:] {
			if random(len(all)) < 2 {
				sums := []int{-maxCross, -7, -1, 1, 2, 1000, maxCross}
				f.Crossings = append(f.Crossings, crossing(a, b, sums[random(len(sums))]))
			}
		}
	}
	return f
}

// someFabrics returns valid fabrics of all sizes.
func someFabrics() []fabrics.Fabric {
	l := []fabrics.Fabric{fabrics.Empty(), example(), held(tableOf(run(1))), held(tableOf(nil, nil, run(2), nil, nil, run(3)))}
	for k := range 120 {
		l = append(l, mixed(k, k/4))
	}
	return append(l, mixed(5, 150))
}

// compare is the chapter's order of names.
func compare(a, b api.Id) int {
	switch {
	case a.Yarn < b.Yarn || a.Yarn == b.Yarn && a.N < b.N:
		return -1
	case a == b:
		return 0
	}
	return 1
}

// deep copies a fabric; room is how much memory its slices have behind their ends.
func deep(f fabrics.Fabric, room int) fabrics.Fabric {
	out := fabrics.Fabric{
		Crossings: roomy(f.Crossings, room), Held: roomy(f.Held, room), Fallen: roomy(f.Fallen, room),
		Yarns: make(loops.Table, 0, len(f.Yarns)+room),
	}
	for _, l := range f.Yarns {
		l = roomy(l, room)
		for i := range l {
			l[i].Through, l[i].Past = roomy(l[i].Through, room), roomy(l[i].Past, room)
		}
		out.Yarns = append(out.Yarns, l)
	}
	return out
}

func roomy[T any](l []T, room int) []T { return append(make([]T, 0, len(l)+room), l...) }

// changed returns a copy of a fabric that is changed.
func changed(f fabrics.Fabric, changes ...func(*fabrics.Fabric)) fabrics.Fabric {
	out := deep(f, 0)
	for _, change := range changes {
		change(&out)
	}
	return out
}

// equal compares fabrics by what they have, as a text; nil slices and empty ones are the same.
func equal(a, b fabrics.Fabric) bool { return slices.Equal(flat(a, false), flat(b, false)) }

// flat lists the numbers of a fabric, with those behind the ends of its slices, or without them.
func flat(f fabrics.Fabric, behind bool) []int {
	var l []int
	number := func(b bool) int {
		if b {
			return 1
		}
		return 0
	}
	list := func(s []api.Id) {
		l = append(l, len(s))
		for _, name := range upTo(s, behind) {
			l = append(l, int(name.Yarn), name.N)
		}
	}
	l = append(l, len(f.Yarns))
	for _, own := range upTo(f.Yarns, behind) {
		l = append(l, len(own))
		for _, x := range upTo(own, behind) {
			l = append(l, int(x.Bed), number(x.New))
			list(x.Through)
			l = append(l, len(x.Past))
			for _, p := range upTo(x.Past, behind) {
				l = append(l, int(p.Id.Yarn), p.Id.N, number(p.Front), int(p.Dir))
			}
		}
	}
	l = append(l, len(f.Crossings))
	for _, c := range upTo(f.Crossings, behind) {
		l = append(l, int(c.A.Yarn), c.A.N, int(c.B.Yarn), c.B.N, c.N)
	}
	list(f.Held)
	list(f.Fallen)
	return l
}

func upTo[T any](l []T, behind bool) []T {
	if behind {
		return l[:cap(l)]
	}
	return l
}

// expectTight checks R4: the capacity of what is returned.
func expectTight[T any](t *testing.T, what string, l []T) {
	t.Helper()
	if len(l) != cap(l) {
		t.Errorf("%s: length %d, capacity %d", what, len(l), cap(l))
	}
}

func expectTightFabric(t *testing.T, what string, f fabrics.Fabric) {
	t.Helper()
	expectTight(t, what+".Yarns", f.Yarns)
	for _, own := range f.Yarns {
		expectTight(t, what+", the loops of a yarn", own)
		for _, l := range own {
			expectTight(t, what+", Through", l.Through)
			expectTight(t, what+", Past", l.Past)
		}
	}
	expectTight(t, what+".Crossings", f.Crossings)
	expectTight(t, what+".Held", f.Held)
	expectTight(t, what+".Fallen", f.Fallen)
}

// expectCheck checks what Check returns; if that is an error, Cross returns it, too, and Text nothing.
func expectCheck(t *testing.T, what string, f fabrics.Fabric, want api.Errno) {
	t.Helper()
	if e := fabrics.Check(f); e != want {
		t.Errorf("%s: Check(%v) = %d, expected %d", what, f, e, want)
	}
	if want == api.OK {
		return
	}
	for _, sign := range []int{1, 0, -2} {
		expectCross(t, f, id(1, 0), id(1, 1), sign, fabrics.Fabric{}, want)
		expectCross(t, f, id(1, 0), id(1, 0), sign, fabrics.Fabric{}, want)
		expectCross(t, f, id(9, 9), id(0, -1), sign, fabrics.Fabric{}, want)
	}
	if text := fabrics.Text(f); text != "" {
		t.Errorf("%s: Text = %q, expected none", what, text)
	}
}

func expectCross(t *testing.T, f fabrics.Fabric, a, b api.Id, sign int, want fabrics.Fabric, we api.Errno) {
	t.Helper()
	got, e := fabrics.Cross(f, a, b, sign)
	if !equal(got, want) || e != we {
		t.Errorf("Cross(%v, %v, %v, %d) = %v, %d, expected %v, %d", f, a, b, sign, got, e, want, we)
	}
	expectTightFabric(t, "Cross", got)
}

func expectLinking(t *testing.T, f fabrics.Fabric, a, b api.Id, want int) {
	t.Helper()
	if got := fabrics.Linking(f, a, b); got != want {
		t.Errorf("Linking(%v, %v, %v) = %d, expected %d", f.Crossings, a, b, got, want)
	}
}

func expectUndone(t *testing.T, f fabrics.Fabric, want ...api.Id) {
	t.Helper()
	got := fabrics.Undone(f)
	if !slices.Equal(got, want) {
		t.Errorf("Undone(%v) = %v, expected %v", f, got, want)
	}
	expectTight(t, "Undone", got)
}

func expectText(t *testing.T, f fabrics.Fabric, lines ...string) {
	t.Helper()
	want := ""
	for _, line := range lines {
		want += line + "\n"
	}
	if got := fabrics.Text(f); got != want {
		t.Errorf("Text = %q, expected %q", got, want)
	}
}

// The examples of the chapter.
func TestExamples(t *testing.T) {
	f := example()
	expectCheck(t, "the example", f, api.OK)
	expectText(t, f, "1.0 front new", "1.1 front", "1.2 back through 1.0 past 1.1<+", "cross 1.1 1.2 -1", "held 1.1 1.2")
	expectCross(t, f, id(1, 2), id(1, 1), 1, changed(f, func(f *fabrics.Fabric) { f.Crossings = nil }), api.OK)
	expectLinking(t, f, id(1, 2), id(1, 1), -1)
	f.Held = ids(id(1, 1), id(1, 2), id(1, 0))
	expectCheck(t, "1.0 is held, too", f, api.ErrState)
	f.Held = ids(id(1, 2))
	expectCheck(t, "1.1 is neither held nor fallen", f, api.ErrState)
	f.Held, f.Fallen = ids(id(1, 1)), ids(id(1, 2))
	expectCheck(t, "1.2 has fallen", f, api.OK)
	expectUndone(t, f)
	f.Held, f.Fallen = ids(id(1, 2)), ids(id(1, 1))
	expectCheck(t, "1.1 has fallen", f, api.OK)
	expectUndone(t, f, id(1, 1))
}

// P6.1: the order of all names, also of those that are of no loop.
func TestCompare(t *testing.T) {
	var l []api.Id
	for _, y := range []uint8{0, 1, 2, 6, 7, 127, 128, 254, 255} {
		for _, n := range []int{math.MinInt, math.MinInt + 1, math.MinInt32, -1, 0, 1, 2, 9, 10, 2047, 2048, math.MaxInt32, 1 << 32, math.MaxInt - 1, math.MaxInt} {
			l = append(l, id(y, n))
		}
	}
	for i, a := range l {
		for j, b := range l {
			want := 0
			if i < j {
				want = -1
			} else if i > j {
				want = 1
			}
			if got := fabrics.Compare(a, b); got != want {
				t.Errorf("Compare(%v, %v) = %d, expected %d", a, b, got, want)
			}
		}
	}
}

// P6.1: the empty fabric is valid, and new memory each time.
func TestEmpty(t *testing.T) {
	f := fabrics.Empty()
	expectCheck(t, "Empty", f, api.OK)
	expectTightFabric(t, "Empty", f)
	if !equal(f, fabrics.Fabric{Yarns: make(loops.Table, maxYarn)}) {
		t.Errorf("Empty = %v", f)
	}
	expectText(t, f)
	expectUndone(t, f)
	f.Yarns[0] = run(1)
	if !equal(fabrics.Empty(), fabrics.Fabric{Yarns: make(loops.Table, maxYarn)}) {
		t.Error("two empty fabrics share memory")
	}
}

// P6.2: what the chapter declares.
func TestMaxCross(t *testing.T) {
	if fabrics.MaxCross != maxCross {
		t.Errorf("MaxCross = %d, expected %d", fabrics.MaxCross, maxCross)
	}
}

// P6.2: valid fabrics.
func TestValid(t *testing.T) {
	for _, f := range someFabrics() {
		expectCheck(t, "a valid fabric", f, api.OK)
	}
	many := held(tableOf(run(maxLoops/2), nil, nil, nil, nil, run(maxLoops/2)))
	slices.Reverse(many.Held)
	expectCheck(t, "as many loops as possible", many, api.OK)
	many.Held, many.Fallen = nil, names(many.Yarns)
	expectCheck(t, "as many loops as possible, fallen", many, api.OK)
	expectUndone(t, many, many.Fallen...)
	many.Held, many.Fallen = many.Fallen[:1000], many.Fallen[1000:]
	expectCheck(t, "as many loops as possible, some fallen", many, api.OK)
	all := held(tableOf(run(60)))
	for i, a := range all.Held {
		for _, b := range all.Held[i+1:] {
			all.Crossings = append(all.Crossings, crossing(a, b, maxCross-2*maxCross*(b.N%2)))
		}
	}
	expectCheck(t, "all crossings", all, api.OK)
}

// P6.2: the errors of tables, which come before all others.
func TestTableErrors(t *testing.T) {
	for _, c := range []struct {
		table loops.Table
		want  api.Errno
	}{
		{nil, api.ErrWidth}, {make(loops.Table, 5), api.ErrWidth}, {make(loops.Table, 7), api.ErrWidth}, {make(loops.Table, 300), api.ErrWidth},
		{tableOf(run(maxLoops + 1)), api.ErrLimit}, {tableOf(make([]loops.Loop, maxLoops), run(1)), api.ErrLimit},
		{tableOf(own(plain())), api.ErrArg}, {tableOf(own(loops.Loop{New: true, Bed: 2})), api.ErrArg}, {tableOf(own(first(id(1, 1)))), api.ErrArg},
		{tableOf(own(loops.Loop{New: true}, loops.Loop{Past: []yarns.Pass{pass(id(1, 0), 2)}})), api.ErrArg},
		{tableOf(own(first(), plain(id(1, 0)), plain(id(1, 0)))), api.ErrThere}, {tableOf(own(first(), plain(id(1, 0), id(1, 0)))), api.ErrThere},
		{tableOf(own(first(id(1, 0)))), api.ErrState}, {tableOf(own(first(id(2, 0))), own(first(id(1, 0)))), api.ErrState},
	} {
		for _, f := range []fabrics.Fabric{
			{}, held(tableOf(run(1))), {Held: ids(id(9, 9))}, {Fallen: ids(id(1, 1), id(1, 0))}, {Crossings: crossings(crossing(id(1, 0), id(1, 0), 0))},
		} {
			f.Yarns = c.table
			if e := loops.Check(c.table); e != c.want {
				t.Fatalf("loops.Check = %d, expected %d", e, c.want)
			}
			expectCheck(t, "a table that is not valid", f, c.want)
		}
	}
}

// crossingsValid is the chapter's definition.
func crossingsValid(f fabrics.Fabric) bool {
	all := names(f.Yarns)
	for i, c := range f.Crossings {
		if !slices.Contains(all, c.A) || !slices.Contains(all, c.B) || compare(c.A, c.B) != -1 {
			return false
		}
		if c.N == 0 || c.N > maxCross || c.N < -maxCross {
			return false
		}
		for _, d := range f.Crossings[:i] {
			if compare(d.A, c.A) == 1 || d.A == c.A && compare(d.B, c.B) != -1 {
				return false
			}
		}
	}
	return true
}

// P6.2: all lists of up to two crossings, and of three, of these names and sums.
func TestCheckCrossings(t *testing.T) {
	base := held(tableOf(run(2), run(1)))
	var some []fabrics.Crossing
	for _, a := range ids(id(1, 0), id(1, 1), id(2, 0), id(2, 1), id(0, 0)) {
		for _, b := range ids(id(1, 0), id(1, 1), id(2, 0), id(1, 2)) {
			some = append(some, crossing(a, b, 1))
		}
	}
	some = append(some, crossing(id(1, 0), id(1, 1), 0), crossing(id(1, 1), id(2, 0), maxCross+1), crossing(id(1, 0), id(2, 0), -maxCross-1))
	expect := func(l ...fabrics.Crossing) {
		t.Helper()
		f := base
		f.Crossings = l
		want := api.ErrArg
		if crossingsValid(f) {
			want = api.OK
		}
		expectCheck(t, "crossings", f, want)
	}
	for _, c := range some {
		expect(c)
		for _, d := range some {
			expect(c, d)
			expect(crossing(id(1, 0), id(1, 1), 5), c, d)
		}
	}
	for _, n := range append(extremes, 0, 1, 2, maxCross-1, maxCross, maxCross+1, 1-maxCross, -maxCross, -maxCross-1) {
		expect(crossing(id(1, 0), id(2, 0), n))
		expect(crossing(id(1, 0), id(1, 1), 1), crossing(id(1, 0), id(2, 0), n))
		expect(crossing(id(1, n), id(2, 0), 1))
		expect(crossing(id(1, 0), id(2, n), 1))
		expect(crossing(id(1, 0), id(7, n), 1))
	}
	for y := range 256 {
		expect(crossing(id(1, 0), id(uint8(y), 0), 1))
		expect(crossing(id(uint8(y), 1), id(2, 0), 1))
	}
}

// P6.2: names in Held and Fallen that are of no loop.
func TestNone(t *testing.T) {
	f := example()
	strangers := ids(api.Id{}, id(0, 1), id(1, 3), id(1, maxLoops), id(2, 0), id(6, 0))
	for _, n := range extremes {
		strangers = append(strangers, id(0, n), id(1, n), id(2, n), id(6, n), id(7, n))
	}
	for y := 7; y < 256; y++ {
		strangers = append(strangers, id(uint8(y), 0))
	}
	for _, name := range strangers {
		for i := range 3 {
			expectCheck(t, "a stranger is held", changed(f, func(f *fabrics.Fabric) { f.Held = slices.Insert(f.Held, i, name) }), api.ErrNone)
		}
		for _, l := range [][]api.Id{{name}, {id(1, 1), name}, {name, id(1, 1)}, {id(1, 1), id(1, 1), name}, {name, name}} {
			expectCheck(t, "a stranger has fallen", changed(f, func(f *fabrics.Fabric) { f.Fallen = l }), api.ErrNone)
		}
	}
}

// stateValid is the chapter's definition: each loop is in one place, and there once.
func stateValid(f fabrics.Fabric) bool {
	places := map[api.Id]int{}
	for _, name := range slices.Concat(f.Held, f.Fallen) {
		places[name]++
	}
	for _, own := range f.Yarns {
		for _, l := range own {
			for _, name := range l.Through {
				places[name]++
			}
		}
	}
	for _, name := range names(f.Yarns) {
		if places[name] != 1 {
			return false
		}
	}
	for i := 1; i < len(f.Fallen); i++ {
		if compare(f.Fallen[i-1], f.Fallen[i]) != -1 {
			return false
		}
	}
	return true
}

// eachList calls a function with all lists of at most n of some names.
func eachList(of []api.Id, n int, f func(l []api.Id)) {
	var grow func(l []api.Id)
	grow = func(l []api.Id) {
		f(l)
		if len(l) == n {
			return
		}
		for _, name := range of {
			grow(append(l[:len(l):len(l)], name))
		}
	}
	grow(nil)
}

// P6.2: all ways in which the loops of small tables can be held or have fallen.
func TestCheckState(t *testing.T) {
	valid := 0
	for _, table := range []loops.Table{
		loops.Empty(), tableOf(run(1)), tableOf(run(2)), tableOf(run(3)), tableOf(run(1), run(1)),
		tableOf(own(first(), plain(id(1, 0)))), tableOf(own(first(), plain(), plain(id(1, 0)))), tableOf(own(first(), plain(), plain(id(1, 0), id(1, 1)))),
		tableOf(own(first(id(2, 0))), run(2)), tableOf(own(first(), plain(id(1, 0)), plain(id(1, 1)))),
		tableOf(own(first(), loops.Loop{Past: []yarns.Pass{pass(id(1, 0), api.Left)}})),
	} {
		eachList(names(table), 4, func(held []api.Id) {
			eachList(names(table), 3, func(fallen []api.Id) {
				f := fabrics.Fabric{Yarns: table, Held: held, Fallen: fallen}
				want := api.ErrState
				if stateValid(f) {
					want = api.OK
					valid++
				}
				if e := fabrics.Check(f); e != want {
					t.Errorf("Check(%v) = %d, expected %d", f, e, want)
				}
			})
		})
	}
	if valid != 1+2+5+16+5+2+5+2+5+2+5 {
		t.Errorf("%d fabrics are valid", valid)
	}
}

// P6.2, P6.4, R2: each error comes before those named behind it, wherever it is.
func TestErrorsInOrder(t *testing.T) {
	base := held(tableOf(run(3), run(2)))
	changes := []struct {
		change func(*fabrics.Fabric)
		e      api.Errno
	}{
		{func(f *fabrics.Fabric) { f.Yarns[3] = own(plain()) }, api.ErrArg},
		{func(f *fabrics.Fabric) { f.Yarns[4] = own(first(id(5, 0))) }, api.ErrState},
		{func(f *fabrics.Fabric) { f.Crossings = crossings(crossing(id(1, 1), id(1, 0), 1)) }, api.ErrArg},
		{func(f *fabrics.Fabric) { f.Fallen = append(f.Fallen, id(3, 0)) }, api.ErrNone},
		{func(f *fabrics.Fabric) { f.Held = append(f.Held, id(1, 3)) }, api.ErrNone},
		{func(f *fabrics.Fabric) { f.Held = append(f.Held, id(1, 0)) }, api.ErrState},
		{func(f *fabrics.Fabric) { f.Fallen = append(f.Fallen, id(1, 1), id(1, 0)) }, api.ErrState},
	}
	for set := range 1 << len(changes) {
		f, want := deep(base, 0), api.OK
		for i, c := range changes {
			if set>>i&1 == 1 {
				c.change(&f)
				if want == api.OK {
					want = c.e
				}
			}
		}
		expectCheck(t, strconv.Itoa(set), f, want)
	}
}

// P6.3: fabrics that differ in one thing.
func TestSame(t *testing.T) {
	base := example()
	base.Yarns[2] = own(first())
	base.Fallen = ids(id(3, 0))
	differ := []func(*fabrics.Fabric){
		func(f *fabrics.Fabric) { f.Yarns = f.Yarns[:5] },
		func(f *fabrics.Fabric) { f.Yarns = append(f.Yarns, nil) },
		func(f *fabrics.Fabric) { f.Yarns = nil },
		func(f *fabrics.Fabric) { f.Yarns[0], f.Yarns[1] = f.Yarns[1], f.Yarns[0] },
		func(f *fabrics.Fabric) { f.Yarns[0] = f.Yarns[0][:2] },
		func(f *fabrics.Fabric) { f.Yarns[0] = append(f.Yarns[0], plain()) },
		func(f *fabrics.Fabric) { f.Yarns[5] = own(first()) },
		func(f *fabrics.Fabric) { f.Yarns[0][0].New = false },
		func(f *fabrics.Fabric) { f.Yarns[0][1].New = true },
		func(f *fabrics.Fabric) { f.Yarns[2][0].Bed = api.Back },
		func(f *fabrics.Fabric) { f.Yarns[0][1].Bed = 2 },
		func(f *fabrics.Fabric) { f.Yarns[0][2].Through = nil },
		func(f *fabrics.Fabric) { f.Yarns[0][2].Through = ids(id(1, 1)) },
		func(f *fabrics.Fabric) { f.Yarns[0][2].Through = ids(id(1, 0), id(1, 1)) },
		func(f *fabrics.Fabric) { f.Yarns[0][2].Through = ids(id(1, 1), id(1, 0)) },
		func(f *fabrics.Fabric) { f.Yarns[0][2].Past = nil },
		func(f *fabrics.Fabric) { f.Yarns[0][2].Past[0].Front = false },
		func(f *fabrics.Fabric) { f.Yarns[0][2].Past[0].Dir = api.Right },
		func(f *fabrics.Fabric) { f.Yarns[0][2].Past[0].Id.N = 0 },
		func(f *fabrics.Fabric) { f.Yarns[0][2].Past[0].Id.Yarn = 3 },
		func(f *fabrics.Fabric) { f.Yarns[0][2].Past = append(f.Yarns[0][2].Past, f.Yarns[0][2].Past...) },
		func(f *fabrics.Fabric) { f.Crossings = nil },
		func(f *fabrics.Fabric) { f.Crossings[0].N = 1 },
		func(f *fabrics.Fabric) { f.Crossings[0].A.N = 0 },
		func(f *fabrics.Fabric) { f.Crossings[0].B.Yarn = 3 },
		func(f *fabrics.Fabric) { f.Crossings = append(f.Crossings, f.Crossings...) },
		func(f *fabrics.Fabric) { f.Held = f.Held[:1] },
		func(f *fabrics.Fabric) { f.Held = nil },
		func(f *fabrics.Fabric) { slices.Reverse(f.Held) },
		func(f *fabrics.Fabric) { f.Fallen = nil },
		func(f *fabrics.Fabric) { f.Fallen = ids(id(1, 1)) },
		func(f *fabrics.Fabric) { f.Held, f.Fallen = f.Fallen, f.Held },
		func(f *fabrics.Fabric) { f.Held, f.Fallen = append(f.Held, f.Fallen...), nil },
		func(f *fabrics.Fabric) { f.Fallen[0] = id(255, math.MinInt) },
	}
	all := []fabrics.Fabric{base, {}, fabrics.Empty(), {Held: ids(id(9, 9))}, {Fallen: ids(id(9, 9))}, {Yarns: make(loops.Table, 300)}}
	for _, change := range differ {
		all = append(all, changed(base, change))
	}
	// The first ones of the others are without loops, too.
	all = append(all, someFabrics()[8:]...)
	for i, a := range all {
		for j, b := range all {
			want := i == j || equal(a, b)
			if i != j && want && (i < 6+len(differ) || j < 6+len(differ)) {
				t.Errorf("the fabrics %d and %d do not differ", i, j)
			}
			if got := fabrics.Same(a, b); got != want {
				t.Errorf("Same of the fabrics %d and %d is %v", i, j, got)
			}
			if i == j && !fabrics.Same(a, deep(b, 2)) {
				t.Errorf("the fabric %d is not the same as its copy", i)
			}
		}
	}
}

// R3: nil slices and empty ones are the same.
func TestNilOrEmpty(t *testing.T) {
	empty := fabrics.Fabric{Yarns: loops.Table{{}, {}, nil, {}, {}, nil}, Crossings: crossings(), Held: ids(), Fallen: ids()}
	expectCheck(t, "empty slices", empty, api.OK)
	if !fabrics.Same(empty, fabrics.Empty()) || !fabrics.Same(fabrics.Empty(), empty) {
		t.Error("empty slices differ from nil")
	}
	if !fabrics.Same(fabrics.Fabric{Yarns: loops.Table{}}, fabrics.Fabric{}) {
		t.Error("an empty table differs from nil")
	}
	one := fabrics.Fabric{Yarns: tableOf(own(loops.Loop{New: true, Through: ids(), Past: []yarns.Pass{}})), Held: ids(id(1, 0)), Fallen: ids()}
	expectText(t, one, "1.0 front new", "held 1.0")
	if !fabrics.Same(one, held(tableOf(run(1)))) {
		t.Error("a loop with empty slices differs from one with nil")
	}
}

// P6.4: each pair of loops, both ways round; only the sum of this pair changes.
func TestCross(t *testing.T) {
	for k, f := range someFabrics() {
		all := names(f.Yarns)
		for i, a := range all {
			for j, b := range all {
				if i == j || (i*31+j+k)%7 > 0 && len(all) > 6 || len(all) > 40 && (i*j)%50 > 0 {
					continue
				}
				for _, sign := range []int{1, -1} {
					want, e := crossed(f, a, b, sign)
					expectCross(t, f, a, b, sign, want, e)
				}
			}
		}
	}
	// Of these lengths are lists for which copying by append would take more room than they need.
	for n := 2; n < 100; n++ {
		some := held(tableOf(run(n), run(n)))
		some.Held, some.Fallen = some.Held[:n], some.Held[n:]
		want, e := crossed(some, id(2, 0), id(1, 0), 1)
		expectCross(t, some, id(2, 0), id(1, 0), 1, want, e)
	}
	many := held(tableOf(run(maxLoops/2), run(maxLoops/2)))
	want, _ := crossed(many, id(2, 1000), id(1, 1023), -1)
	expectCross(t, many, id(2, 1000), id(1, 1023), -1, want, api.OK)
}

// crossed is what Cross must return for two different loops of a valid fabric: it makes all sums anew.
func crossed(f fabrics.Fabric, a, b api.Id, sign int) (fabrics.Fabric, api.Errno) {
	sums := map[[2]api.Id]int{}
	for _, c := range f.Crossings {
		sums[[2]api.Id{c.A, c.B}] = c.N
	}
	key := [2]api.Id{a, b}
	if compare(a, b) == 1 {
		key = [2]api.Id{b, a}
	}
	sums[key] += sign
	if sums[key] > maxCross || sums[key] < -maxCross {
		return fabrics.Fabric{}, api.ErrLimit
	}
	out := deep(f, 0)
	out.Crossings = nil
	for key, n := range sums {
		if n != 0 {
			out.Crossings = append(out.Crossings, crossing(key[0], key[1], n))
		}
	}
	slices.SortFunc(out.Crossings, func(c, d fabrics.Crossing) int {
		if c.A != d.A {
			return compare(c.A, d.A)
		}
		return compare(c.B, d.B)
	})
	return out, api.OK
}

// P6.4, R2: the errors of Cross, in their order.
func TestCrossErrors(t *testing.T) {
	f := example()
	strangers := ids(api.Id{}, id(0, 1), id(1, 3), id(2, 0), id(6, 2047), id(7, 0), id(255, 1))
	for _, n := range extremes {
		strangers = append(strangers, id(1, n), id(6, n))
	}
	for _, sign := range append(extremes, 0, 2, 3, 255, 257) {
		if sign == -1 {
			continue
		}
		for _, a := range append(strangers, names(f.Yarns)...) {
			expectCross(t, f, a, id(1, 1), sign, fabrics.Fabric{}, api.ErrArg)
			expectCross(t, f, id(1, 1), a, sign, fabrics.Fabric{}, api.ErrArg)
		}
	}
	for _, sign := range []int{1, -1} {
		for _, a := range append(strangers, names(f.Yarns)...) {
			expectCross(t, f, a, a, sign, fabrics.Fabric{}, api.ErrArg)
		}
		for _, a := range strangers {
			expectCross(t, f, a, id(1, 0), sign, fabrics.Fabric{}, api.ErrNone)
			expectCross(t, f, id(1, 2), a, sign, fabrics.Fabric{}, api.ErrNone)
			if a != (api.Id{}) {
				expectCross(t, f, a, api.Id{}, sign, fabrics.Fabric{}, api.ErrNone)
			}
		}
	}
}

// P6.4: sums up to MaxCross, on both sides.
func TestCrossLimit(t *testing.T) {
	sum := func(n int) fabrics.Fabric {
		return changed(example(), func(f *fabrics.Fabric) { f.Crossings[0].N = n })
	}
	for _, sign := range []int{1, -1} {
		top := sign * maxCross
		for _, l := range [][]api.Id{{id(1, 1), id(1, 2)}, {id(1, 2), id(1, 1)}} {
			expectCross(t, sum(top), l[0], l[1], sign, fabrics.Fabric{}, api.ErrLimit)
			expectCross(t, sum(top), l[0], l[1], -sign, sum(top-sign), api.OK)
			expectCross(t, sum(top-sign), l[0], l[1], sign, sum(top), api.OK)
			expectCross(t, sum(top), l[0], l[1], 2*sign, fabrics.Fabric{}, api.ErrArg)
			expectCross(t, sum(top), l[0], id(2, 0), sign, fabrics.Fabric{}, api.ErrNone)
		}
		other, _ := crossed(sum(top), id(1, 0), id(1, 2), sign)
		expectCross(t, sum(top), id(1, 0), id(1, 2), sign, other, api.OK)
	}
}

// P6.4: Linking of valid fabrics, both ways round.
func TestLinking(t *testing.T) {
	for _, f := range someFabrics() {
		sums := map[[2]api.Id]int{}
		for _, c := range f.Crossings {
			sums[[2]api.Id{c.A, c.B}] = c.N
		}
		all := names(f.Yarns)
		for i, a := range all {
			expectLinking(t, f, a, a, 0)
			expectLinking(t, f, a, id(9, 9), 0)
			for _, b := range all[i+1:] {
				expectLinking(t, f, a, b, sums[[2]api.Id{a, b}])
				expectLinking(t, f, b, a, sums[[2]api.Id{a, b}])
			}
		}
	}
}

// P6.4: Linking accepts all fabrics, and finds the first crossing whose A is the lesser name.
func TestLinkingOfAnyFabric(t *testing.T) {
	a, b, c, d := id(0, math.MinInt), id(1, 5), id(9, -1), id(255, math.MaxInt)
	f := fabrics.Fabric{Crossings: crossings(
		crossing(b, a, 1), crossing(c, d, math.MinInt), crossing(a, b, 0), crossing(a, b, 3), crossing(c, c, 4), crossing(c, c, 5),
		crossing(a, c, math.MaxInt), crossing(a, c, 6), crossing(d, c, 7), crossing(d, a, 8), crossing(a, a, 0), crossing(a, a, 9))}
	for _, x := range []struct {
		a, b api.Id
		want int
	}{
		{a, b, 0}, {b, a, 0}, {c, d, math.MinInt}, {d, c, math.MinInt}, {a, c, math.MaxInt}, {c, a, math.MaxInt}, {a, d, 0}, {d, a, 0},
		{c, c, 4}, {a, a, 0}, {b, b, 0}, {d, d, 0}, {b, c, 0}, {b, d, 0},
	} {
		expectLinking(t, f, x.a, x.b, x.want)
	}
	f.Crossings = f.Crossings[3:]
	expectLinking(t, f, a, b, 3)
	expectLinking(t, f, b, a, 3)
	expectLinking(t, fabrics.Fabric{}, a, b, 0)
	expectLinking(t, fabrics.Fabric{}, a, a, 0)
}

// P6.5: the last loop of a yarn is fastened if it goes through another one.
func TestUndone(t *testing.T) {
	for _, f := range someFabrics() {
		var want []api.Id
		for _, name := range f.Fallen {
			own := f.Yarns[name.Yarn-1]
			if name.N < len(own)-1 || len(own[name.N].Through) == 0 {
				want = append(want, name)
			}
		}
		expectUndone(t, f, want...)
	}
	f := fabrics.Fabric{
		Yarns:  tableOf(own(first(), plain(), plain(id(1, 0)), plain(id(1, 1))), own(first()), nil, own(first(id(2, 0)))),
		Fallen: ids(id(1, 2), id(1, 3), id(4, 0)),
	}
	expectCheck(t, "two are fastened", f, api.OK)
	expectUndone(t, f, id(1, 2))
	f.Yarns[0] = append(f.Yarns[0], plain())
	f.Fallen = ids(id(1, 2), id(1, 3), id(1, 4), id(4, 0))
	expectCheck(t, "the end goes through nothing", f, api.OK)
	expectUndone(t, f, id(1, 2), id(1, 3), id(1, 4))
}

// P6.5: Undone accepts all fabrics.
func TestUndoneOfAnyFabric(t *testing.T) {
	wild := ids(id(255, math.MaxInt), id(3, -1), api.Id{}, id(1, math.MinInt), id(3, -1), id(1, 0), id(0, 0), id(7, 3))
	expectUndone(t, fabrics.Fabric{Fallen: wild}, wild...)
	expectUndone(t, fabrics.Fabric{Yarns: loops.Empty(), Held: wild, Fallen: wild}, wild...)
	expectUndone(t, fabrics.Fabric{})
	wide := fabrics.Fabric{Yarns: make(loops.Table, 300)}
	for i := range wide.Yarns {
		wide.Yarns[i] = own(plain(id(9, 9)), plain(id(9, 9)), plain(id(0, -5)))
	}
	for y := range 256 {
		y := uint8(y)
		wide.Fallen = ids(id(y, 2), id(y, 1), id(y, 3), id(y, 0), id(y, 2), id(y, 1), id(y, -1))
		if y == 0 {
			expectUndone(t, wide, wide.Fallen...)
		} else {
			expectUndone(t, wide, id(y, 1), id(y, 3), id(y, 0), id(y, 1), id(y, -1))
		}
	}
	// Only the last loop counts, and only what it goes through.
	f := fabrics.Fabric{
		Yarns: loops.Table{own(plain(id(1, 0))), own(loops.Loop{Bed: 7, Past: []yarns.Pass{pass(id(1, 0), 5)}}), own(loops.Loop{Bed: 7, Through: ids(id(3, 0))})},
		Held:  ids(id(1, 0)), Fallen: ids(id(3, 0), id(2, 0), id(1, 0), id(4, 0)),
	}
	expectUndone(t, f, id(2, 0), id(4, 0))
}

// P6.6: all words of a text.
func TestText(t *testing.T) {
	f := fabrics.Fabric{
		Yarns: tableOf(
			own(loops.Loop{Bed: api.Back, New: true}, loops.Loop{New: true, Past: []yarns.Pass{pass(id(1, 0), api.Right)}}),
			nil,
			own(loops.Loop{New: true}, loops.Loop{Bed: api.Back}, loops.Loop{Through: ids(id(3, 1), id(1, 1))},
				loops.Loop{Bed: api.Back, New: true, Through: ids(id(3, 0)), Past: []yarns.Pass{
					pass(id(1, 0), api.Left), before(id(6, 0), api.Right), before(id(3, 0), api.Left), pass(id(3, 2), api.Right),
				}}),
			nil, nil, own(loops.Loop{New: true})),
		Crossings: crossings(crossing(id(1, 0), id(1, 1), 12), crossing(id(1, 0), id(6, 0), -maxCross), crossing(id(3, 2), id(6, 0), maxCross)),
		Held:      ids(id(6, 0), id(1, 0)),
		Fallen:    ids(id(3, 2), id(3, 3)),
	}
	expectCheck(t, "the fabric", f, api.OK)
	lines := []string{
		"1.0 back new", "1.1 front new past 1.0>", "3.0 front new", "3.1 back", "3.2 front through 3.1 1.1",
		"3.3 back new through 3.0 past 1.0< 6.0>+ 3.0<+ 3.2>", "6.0 front new",
		"cross 1.0 1.1 12", "cross 1.0 6.0 -1048576", "cross 3.2 6.0 1048576", "held 6.0 1.0", "fallen 3.2 3.3",
	}
	expectText(t, f, lines...)
	f.Held, f.Fallen = nil, ids(id(1, 0), id(3, 2), id(3, 3), id(6, 0))
	expectText(t, f, append(lines[:10:10], "fallen 1.0 3.2 3.3 6.0")...)
	f.Held, f.Fallen, f.Crossings = f.Fallen, nil, nil
	expectText(t, f, append(lines[:7:7], "held 1.0 3.2 3.3 6.0")...)
	many := held(tableOf(run(maxLoops)))
	l := strings.Split(fabrics.Text(many), "\n")
	if len(l) != maxLoops+2 || l[maxLoops-1] != "1.2047 front" || l[maxLoops+1] != "" || !strings.HasSuffix(l[maxLoops], " 1.2046 1.2047") {
		t.Errorf("the text of many loops has %d lines", len(l)-1)
	}
}

// readName reads a name y.n.
func readName(t *testing.T, s string) api.Id {
	t.Helper()
	y, n, ok := strings.Cut(s, ".")
	yarn, e := strconv.Atoi(y)
	number, e2 := strconv.Atoi(n)
	if !ok || e != nil || e2 != nil {
		t.Fatalf("%q is no name", s)
	}
	return id(uint8(yarn), number)
}

// readPass reads a name, < or >, and + or nothing.
func readPass(t *testing.T, s string) yarns.Pass {
	t.Helper()
	p := yarns.Pass{}
	s, p.Front = strings.CutSuffix(s, "+")
	s, right := strings.CutSuffix(s, ">")
	if right {
		p.Dir = api.Right
	} else if !strings.HasSuffix(s, "<") {
		t.Fatalf("%q is no pass", s)
	}
	p.Id = readName(t, strings.TrimSuffix(s, "<"))
	return p
}

// read reads the text of a fabric; so different fabrics cannot have the same text.
func read(t *testing.T, text string) fabrics.Fabric {
	t.Helper()
	f := fabrics.Empty()
	for line := range strings.Lines(text) {
		words := strings.Split(strings.TrimSuffix(line, "\n"), " ")
		switch words[0] {
		case "cross":
			n, e := strconv.Atoi(words[3])
			if e != nil || len(words) != 4 {
				t.Fatalf("%q is no crossing", line)
			}
			f.Crossings = append(f.Crossings, crossing(readName(t, words[1]), readName(t, words[2]), n))
		case "held":
			for _, w := range words[1:] {
				f.Held = append(f.Held, readName(t, w))
			}
		case "fallen":
			for _, w := range words[1:] {
				f.Fallen = append(f.Fallen, readName(t, w))
			}
		default:
			name := readName(t, words[0])
			if name.N != len(f.Yarns[name.Yarn-1]) {
				t.Fatalf("%q comes too early or too late", line)
			}
			f.Yarns[name.Yarn-1] = append(f.Yarns[name.Yarn-1], readLoop(t, words[1:]))
		}
	}
	return f
}

func readLoop(t *testing.T, words []string) loops.Loop {
	t.Helper()
	var l loops.Loop
	switch words[0] {
	case "back":
		l.Bed = api.Back
	case "front":
	default:
		t.Fatalf("%q is no bed", words[0])
	}
	words = words[1:]
	if len(words) > 0 && words[0] == "new" {
		l.New = true
		words = words[1:]
	}
	past := slices.Index(words, "past")
	if past < 0 {
		past = len(words)
	}
	for i, w := range words {
		switch {
		case i == 0 && w == "through" || i == past:
		case i < past:
			l.Through = append(l.Through, readName(t, w))
		default:
			l.Past = append(l.Past, readPass(t, w))
		}
	}
	return l
}

// P6.6, P6.7: a text can be read back, so that it tells all of a valid fabric.
func TestTextsTellAll(t *testing.T) {
	texts := map[string]fabrics.Fabric{}
	for _, f := range someFabrics() {
		text := fabrics.Text(f)
		if back := read(t, text); !equal(back, f) || !fabrics.Same(back, f) || fabrics.Text(back) != text {
			t.Errorf("the text of %v is that of %v", f, back)
		}
		if g, is := texts[text]; is && !fabrics.Same(f, g) {
			t.Errorf("%v and %v have the same text", f, g)
		}
		texts[text] = f
	}
}

// P6.7: Same is an equivalence, on fabrics of which some are the same.
func TestEquivalence(t *testing.T) {
	all := append(someFabrics()[:30], fabrics.Fabric{}, fabrics.Fabric{Yarns: loops.Table{}}, example(), deep(example(), 1))
	for i, a := range all {
		if !fabrics.Same(a, a) {
			t.Errorf("the fabric %d is not the same as itself", i)
		}
		for j, b := range all {
			if fabrics.Same(a, b) != fabrics.Same(b, a) {
				t.Errorf("the fabrics %d and %d are the same only one way round", i, j)
			}
			for _, c := range all {
				if fabrics.Same(a, b) && fabrics.Same(b, c) && !fabrics.Same(a, c) {
					t.Errorf("what is the same as %d is not the same as %d", j, i)
				}
			}
		}
	}
}

// cross adds crossings, each given by two loops, and a sign as N.
func cross(t *testing.T, f fabrics.Fabric, l ...fabrics.Crossing) fabrics.Fabric {
	t.Helper()
	for _, c := range l {
		next, e := fabrics.Cross(f, c.A, c.B, c.N)
		if e != api.OK {
			t.Fatalf("Cross(%v) = %d", c, e)
		}
		if fabrics.Check(next) != api.OK {
			t.Fatalf("Cross(%v) gives %v, which is not valid", c, next)
		}
		f = next
	}
	return f
}

// P6.7: there and back gives the fabric from before; the order of crossings does not matter.
func TestCrossings(t *testing.T) {
	a, b, c, d := id(1, 0), id(1, 1), id(1, 2), id(2, 0)
	f := held(tableOf(run(3), run(1)))
	for _, x := range ids(a, b, c, d) {
		for _, y := range ids(a, b, c, d) {
			if x != y {
				there := cross(t, f, crossing(x, y, 1))
				if n := fabrics.Linking(there, y, x); n != 1 || fabrics.Same(there, f) {
					t.Errorf("Linking of %v and %v behind a crossing is %d", x, y, n)
				}
				if !fabrics.Same(cross(t, there, crossing(x, y, -1)), f) || !fabrics.Same(cross(t, f, crossing(x, y, -1), crossing(y, x, 1)), f) {
					t.Errorf("%v and %v, crossed there and back, give another fabric", x, y)
				}
			}
		}
	}
	some := crossings(crossing(a, b, 1), crossing(b, a, 1), crossing(c, d, -1), crossing(d, a, 1), crossing(a, d, -1), crossing(b, c, -1), crossing(d, c, -1))
	want := cross(t, f, some...)
	if !slices.Equal(want.Crossings, crossings(crossing(a, b, 2), crossing(b, c, -1), crossing(c, d, -2))) {
		t.Errorf("the sums are %v", want.Crossings)
	}
	var order func(done, left []fabrics.Crossing)
	order = func(done, left []fabrics.Crossing) {
		if len(left) == 0 && !fabrics.Same(cross(t, f, done...), want) {
			t.Errorf("%v gives another fabric", done)
		}
		for i, x := range left {
			order(slices.Concat(done, crossings(x)), slices.Concat(left[:i], left[i+1:]))
		}
	}
	order(nil, some)
}

// spoil changes everything in a fabric.
func spoil(f fabrics.Fabric) {
	for _, own := range f.Yarns {
		for i := range own {
			clear(own[i].Through)
			clear(own[i].Past)
		}
		clear(own)
	}
	clear(f.Yarns)
	clear(f.Crossings)
	clear(f.Held)
	clear(f.Fallen)
}

// R1, R4: arguments stay as they are, also behind their ends, and results share no memory with them.
func TestMemory(t *testing.T) {
	for _, valid := range []fabrics.Fabric{example(), mixed(5, 40), mixed(11, 60), mixed(7, 12)} {
		f := deep(valid, 3)
		before := flat(f, true)
		all := names(f.Yarns)
		a, b := all[len(all)-1], all[len(all)/3]
		want, e := crossed(valid, a, b, 1)
		got, ge := fabrics.Cross(f, a, b, 1)
		undone := fabrics.Undone(f)
		kept := slices.Clone(undone)
		fabrics.Check(f)
		fabrics.Same(f, f)
		fabrics.Linking(f, a, b)
		fabrics.Text(f)
		if ge != e || !slices.Equal(before, flat(f, true)) {
			t.Errorf("the argument has changed to %v, %d", f, ge)
		}
		spoil(f)
		if !equal(got, want) || !slices.Equal(undone, kept) {
			t.Errorf("a result has changed: %v, %v", got, undone)
		}
		again := deep(valid, 3)
		got, _ = fabrics.Cross(again, a, b, 1)
		clear(fabrics.Undone(again))
		spoil(got)
		if !equal(again, valid) {
			t.Errorf("the argument has changed with the result, to %v", again)
		}
	}
}

// R1, R4: lists that share memory in an argument do not share it in the result.
func TestPartsAreTheirOwn(t *testing.T) {
	past := []yarns.Pass{pass(id(1, 0), api.Left)}
	l := own(first(), loops.Loop{Past: past}, loops.Loop{Past: past})
	memory := ids(id(1, 0), id(1, 1), id(1, 2))
	f := fabrics.Fabric{Yarns: tableOf(l), Held: memory[:2], Fallen: memory[2:]}
	got, e := fabrics.Cross(f, id(1, 0), id(1, 2), 1)
	want, _ := crossed(f, id(1, 0), id(1, 2), 1)
	if e != api.OK || !equal(got, want) {
		t.Fatalf("Cross = %v, %d, expected %v", got, e, want)
	}
	got.Yarns[0][1].Past[0].Dir = api.Right
	got.Held = append(got.Held, id(9, 9))
	if got.Yarns[0][2].Past[0].Dir != api.Left || got.Fallen[0] != id(1, 2) || memory[2] != id(1, 2) || past[0].Dir != api.Left {
		t.Error("parts of a result share memory")
	}
}
