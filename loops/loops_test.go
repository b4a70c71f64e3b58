package loops_test

import (
	"math"
	"slices"
	"testing"

	"gansey/api"
	"gansey/loops"
	"gansey/yarns"
)

const (
	maxYarn    = 6
	maxStack   = 4
	maxLoops   = 2048
	maxPending = 4096
)

// extremes are numbers that a loop cannot have.
var extremes = []int{
	math.MinInt, math.MinInt + 1, math.MinInt32, -1 << 16, -256, -2, -1,
	1 << 16, 1<<16 + 1, math.MaxInt32, 1 << 32, 1<<32 + 1, 1 << 62, math.MaxInt - 1, math.MaxInt,
}

// id returns the name y.n of the chapter's examples.
func id(y uint8, n int) api.Id { return api.Id{Yarn: y, N: n} }

func ids(l ...api.Id) []api.Id { return l }

// pass returns a pass behind a loop.
func pass(name api.Id, d api.Dir) yarns.Pass { return yarns.Pass{Id: name, Dir: d} }

func passes(l ...yarns.Pass) []yarns.Pass { return l }

// plain returns a loop through others.
func plain(through ...api.Id) loops.Loop { return loops.Loop{Through: through} }

// first returns a New loop through others.
func first(through ...api.Id) loops.Loop { return loops.Loop{New: true, Through: through} }

// beside returns a New loop whose yarn has passed something.
func beside(past ...yarns.Pass) loops.Loop { return loops.Loop{New: true, Past: past} }

// tableOf returns a table in which the first yarns have these loops.
func tableOf(own ...[]loops.Loop) loops.Table {
	t := make(loops.Table, maxYarn)
	copy(t, own)
	return t
}

// own lists the loops of a yarn.
func own(l ...loops.Loop) []loops.Loop { return l }

// run returns loops of which the first one is New, and that need nothing but each other.
func run(n int) []loops.Loop {
	l := make([]loops.Loop, n)
	for i := range l {
		l[i].New = i%5 == 0
		l[i].Bed = api.Bed(i % 2)
	}
	return l
}

// example returns the table of the chapter's examples.
func example() loops.Table {
	return tableOf(
		own(first(), plain(), plain(id(1, 1))),
		own(loops.Loop{New: true, Through: ids(id(1, 0)), Past: passes(pass(id(1, 1), api.Right))}))
}

// full returns a table to which no loop can be added, in which each yarn waits for another one.
func full() loops.Table {
	t := make(loops.Table, maxYarn)
	for k := range maxLoops {
		y, n := maxYarn-1-k%maxYarn, k/maxYarn
		l := loops.Loop{New: n%7 == 0, Bed: api.Bed(k / 2 % 2)}
		if k > 0 {
			before := id(uint8(maxYarn-(k-1)%maxYarn), (k-1)/maxYarn)
			l.Past = passes(pass(before, api.Dir(k%2)))
			if k%3 > 0 {
				l.Through = ids(before)
			}
		}
		t[y] = append(t[y], l)
	}
	return t
}

// deep copies a table; room is how much memory its slices have behind their ends.
func deep(t loops.Table, room int) loops.Table {
	out := make(loops.Table, 0, len(t)+room)
	for _, l := range t {
		copied := make([]loops.Loop, 0, len(l)+room)
		for _, x := range l {
			x.Through = append(make([]api.Id, 0, len(x.Through)+room), x.Through...)
			x.Past = append(make([]yarns.Pass, 0, len(x.Past)+room), x.Past...)
			copied = append(copied, x)
		}
		out = append(out, copied)
	}
	return out
}

// changed returns a copy of a table in which one loop is another one.
func changed(t loops.Table, name api.Id, change func(*loops.Loop)) loops.Table {
	out := deep(t, 0)
	change(&out[name.Yarn-1][name.N])
	return out
}

// mixed returns a valid table with n loops that need each other in all ways; k decides how.
func mixed(k, n int) loops.Table {
	t := make(loops.Table, maxYarn)
	state := uint32(k)*2654435761 + 1
	random := func(below int) int {
		state = state*1664525 + 1013904223
		return int(state>>16) % below
	}
	var made, free []api.Id
	for range n {
		y := random(1 + k%maxYarn)
		l := loops.Loop{Bed: api.Bed(random(2)), New: len(t[y]) == 0 || random(4) == 0}
		for range min(len(free), random(maxStack+1)) {
			i := random(len(free))
			l.Through = append(l.Through, free[i])
			free = slices.Delete(free, i, i+1)
		}
		for range random(4) {
			if len(made) > 0 {
				l.Past = append(l.Past, yarns.Pass{Id: made[random(len(made))], Front: random(2) == 0, Dir: api.Dir(random(2))})
			}
		}
		l.Past = yarns.Reduce(l.Past)
		name := id(uint8(y+1), len(t[y]))
		made, free = append(made, name), append(free, name)
		t[y] = append(t[y], l)
	}
	return t
}

// someTables returns valid tables of all sizes.
func someTables() []loops.Table {
	l := []loops.Table{loops.Empty(), example(), tableOf(run(1)), tableOf(run(2), nil, run(3))}
	for k := range 120 {
		l = append(l, mixed(k, k/2))
	}
	return append(l, mixed(5, 400))
}

// names returns all names of a table, in their order.
func names(t loops.Table) []api.Id {
	var l []api.Id
	for y := 1; y <= min(len(t), 255); y++ {
		for n := range t[y-1] {
			l = append(l, id(uint8(y), n))
		}
	}
	return l
}

func sameLoop(a, b loops.Loop) bool {
	return a.Bed == b.Bed && a.New == b.New && slices.Equal(a.Through, b.Through) && slices.Equal(a.Past, b.Past)
}

// same compares tables; nil slices and empty ones are the same.
func same(a, b loops.Table) bool {
	return slices.EqualFunc(a, b, func(l, m []loops.Loop) bool { return slices.EqualFunc(l, m, sameLoop) })
}

// expectTight checks R4: the capacity of what is returned.
func expectTight[T any](t *testing.T, what string, l []T) {
	t.Helper()
	if len(l) != cap(l) {
		t.Errorf("%s: length %d, capacity %d", what, len(l), cap(l))
	}
}

func expectTightTable(t *testing.T, what string, table loops.Table) {
	t.Helper()
	expectTight(t, what, table)
	for _, l := range table {
		expectTight(t, what, l)
		for _, x := range l {
			expectTight(t, what, x.Through)
			expectTight(t, what, x.Past)
		}
	}
}

func expectCheck(t *testing.T, what string, table loops.Table, want api.Errno) {
	t.Helper()
	if e := loops.Check(table); e != want {
		t.Errorf("%s: Check = %d, expected %d", what, e, want)
	}
}

func expectFind(t *testing.T, table loops.Table, name api.Id, want loops.Loop, we api.Errno) {
	t.Helper()
	got, e := loops.Find(table, name)
	if !sameLoop(got, want) || e != we {
		t.Errorf("Find(%v) = %v, %d, expected %v, %d", name, got, e, want, we)
	}
	expectTight(t, "Find", got.Through)
	expectTight(t, "Find", got.Past)
}

func expectAbove(t *testing.T, table loops.Table, name, want api.Id, there bool) {
	t.Helper()
	if got, ok := loops.Above(table, name); got != want || ok != there {
		t.Errorf("Above(%v) = %v, %v, expected %v, %v", name, got, ok, want, there)
	}
}

func expectNeeds(t *testing.T, table loops.Table, name api.Id, want ...api.Id) {
	t.Helper()
	got := loops.Needs(table, name)
	if !slices.Equal(got, want) {
		t.Errorf("Needs(%v) = %v, expected %v", name, got, want)
	}
	expectTight(t, "Needs", got)
}

func expectOrder(t *testing.T, table loops.Table, want []api.Id, we api.Errno) {
	t.Helper()
	got, e := loops.Order(table)
	if !slices.Equal(got, want) || e != we {
		t.Errorf("Order(%v) = %v, %d, expected %v, %d", table, got, e, want, we)
	}
	expectTight(t, "Order", got)
}

// expectAdd checks Add; with an error it returns no table.
func expectAdd(t *testing.T, table loops.Table, yarn uint8, l loops.Loop, we api.Errno) {
	t.Helper()
	var want loops.Table
	if we == api.OK {
		want = deep(table, 0)
		want[yarn-1] = append(want[yarn-1], l)
	}
	got, e := loops.Add(table, yarn, l)
	if !same(got, want) || e != we {
		t.Errorf("Add(%d, %v) = %v, %d, expected %v, %d", yarn, l, got, e, want, we)
	}
	expectTightTable(t, "Add", got)
}

// The examples of the chapter.
func TestExamples(t *testing.T) {
	table := example()
	expectCheck(t, "the example", table, api.OK)
	expectOrder(t, table, ids(id(1, 0), id(1, 1), id(1, 2), id(2, 0)), api.OK)
	expectNeeds(t, table, id(2, 0), id(1, 0), id(1, 1))
	expectNeeds(t, table, id(1, 2), id(1, 1))
	expectAbove(t, table, id(1, 0), id(2, 0), true)
	expectAbove(t, table, id(2, 0), api.Id{}, false)
	expectAdd(t, table, 1, plain(id(2, 0)), api.OK)
	expectAdd(t, table, 1, plain(id(1, 1)), api.ErrThere)
	expectAdd(t, table, 1, plain(id(2, 1)), api.ErrArg)
	table[0][0].Through = ids(id(2, 0))
	expectCheck(t, "1.0 through 2.0", table, api.ErrState)
	expectOrder(t, table, nil, api.ErrState)
}

// P5.1
func TestEmpty(t *testing.T) {
	table := loops.Empty()
	expectCheck(t, "Empty", table, api.OK)
	expectTightTable(t, "Empty", table)
	if len(table) != maxYarn || loops.Count(table) != 0 {
		t.Errorf("Empty = %v", table)
	}
	expectOrder(t, table, nil, api.OK)
	table[0] = run(1)
	if loops.Count(loops.Empty()) != 0 {
		t.Error("two empty tables share memory")
	}
}

// P5.1: a table has exactly six elements; this comes before all else.
func TestWidth(t *testing.T) {
	for _, width := range []int{0, 1, 5, 7, 8, 255, 256, 257, 1000} {
		tables := []loops.Table{make(loops.Table, width)}
		if width > 0 {
			for _, l := range [][]loops.Loop{run(1), run(maxLoops + 1), own(plain()), own(first(id(1, 0))), own(first(id(0, 9), id(0, 9)))} {
				table := make(loops.Table, width)
				table[width-1] = l
				tables = append(tables, table)
			}
		}
		for _, table := range tables {
			expectCheck(t, "another width", table, api.ErrWidth)
			expectOrder(t, table, nil, api.ErrWidth)
			for _, yarn := range []uint8{0, 1, 6, 7, 255} {
				expectAdd(t, table, yarn, first(), api.ErrWidth)
				expectAdd(t, table, yarn, first(id(9, 9)), api.ErrWidth)
			}
		}
	}
	expectCheck(t, "no table", nil, api.ErrWidth)
	expectCheck(t, "empty elements", loops.Table{{}, nil, {}, nil, {}, nil}, api.OK)
}

// P5.1: a table has at most MaxLoops loops; this comes before all that is wrong with them.
func TestLimit(t *testing.T) {
	expectCheck(t, "a full table", full(), api.OK)
	for y := range maxYarn {
		table := make(loops.Table, maxYarn)
		table[y] = run(maxLoops)
		expectCheck(t, "all loops of one yarn", table, api.OK)
		table[y] = run(maxLoops + 1)
		expectCheck(t, "too many of one yarn", table, api.ErrLimit)
		table[y] = make([]loops.Loop, maxLoops+1)
		expectCheck(t, "too many that are not New", table, api.ErrLimit)
		table[y][maxLoops] = loops.Loop{Bed: 2, Through: ids(id(0, -1), id(0, -1))}
		expectOrder(t, table, nil, api.ErrLimit)
		table = full()
		table[y] = append(table[y], plain())
		expectCheck(t, "one more", table, api.ErrLimit)
	}
}

// wrong returns loops that are not right as the loop 1.1 of the chapter's example, each for one reason.
func wrong() []loops.Loop {
	var l []loops.Loop
	for bed := 2; bed <= 255; bed++ {
		l = append(l, loops.Loop{Bed: api.Bed(bed)})
	}
	for d := 2; d <= 255; d++ {
		l = append(l, loops.Loop{Past: passes(pass(id(1, 0), api.Dir(d)))}, loops.Loop{Past: passes(pass(id(1, 0), api.Left), pass(id(1, 0), api.Dir(d)))})
	}
	strangers := ids(api.Id{}, id(0, 1), id(1, 3), id(1, maxLoops), id(2, 1), id(3, 0), id(6, 0), id(7, 0), id(255, 0), id(255, 1))
	for _, n := range extremes {
		strangers = append(strangers, id(0, n), id(1, n), id(2, n), id(6, n), id(7, n))
	}
	for _, name := range strangers {
		l = append(l, plain(name), plain(id(1, 0), name), plain(name, id(1, 0)))
		for d := range api.Dir(2) {
			l = append(l, loops.Loop{Past: passes(pass(name, d))}, loops.Loop{Past: passes(pass(id(1, 0), d), yarns.Pass{Id: name, Front: true, Dir: d})})
		}
	}
	back, forth := pass(id(1, 0), api.Left), pass(id(1, 0), api.Right)
	l = append(l, loops.Loop{Past: passes(back, forth)}, loops.Loop{Past: passes(forth, back)}, loops.Loop{Past: passes(back, back, forth)},
		loops.Loop{Past: passes(forth, pass(id(2, 0), api.Left), pass(id(2, 0), api.Right))}, loops.Loop{Past: walk(maxPending + 1)})
	return append(l, plain(id(1, 0), id(1, 1), id(1, 2), id(2, 0), id(1, 0)))
}

// walk returns passes of the loop 1.0, which do not cancel.
func walk(n int) []yarns.Pass {
	l := make([]yarns.Pass, n)
	for i := range l {
		l[i] = yarns.Pass{Id: id(1, 0), Front: i%2 == 0, Dir: api.Dir(i / 3 % 2)}
	}
	return l
}

// P5.1: loops that are not right, wherever they stand; P5.5 and P5.6 return these errors.
func TestNotRight(t *testing.T) {
	for _, bad := range wrong() {
		for _, name := range names(example()) {
			table := changed(example(), name, func(l *loops.Loop) {
				bad.New = l.New
				*l = bad
			})
			expectCheck(t, "a loop that is not right", table, api.ErrArg)
			expectOrder(t, table, nil, api.ErrArg)
			expectAdd(t, table, 1, plain(), api.ErrArg)
		}
	}
}

// P5.1: the first loop of a yarn is New; the others may be.
func TestNew(t *testing.T) {
	for y := range uint8(maxYarn) {
		for _, size := range []int{1, 2, 5} {
			table := make(loops.Table, maxYarn)
			table[y] = make([]loops.Loop, size)
			expectCheck(t, "none New", table, api.ErrArg)
			for n := 1; n < size; n++ {
				table[y][n].New = true
				expectCheck(t, "the first not New", table, api.ErrArg)
			}
			table[y][0].New = true
			expectCheck(t, "all New", table, api.OK)
			for n := 1; n < size; n++ {
				table[y][n].New = false
				expectCheck(t, "some New", table, api.OK)
			}
			expectAdd(t, table, y+1, first(), api.OK)
			expectAdd(t, table, y+1, plain(), api.OK)
		}
		expectAdd(t, loops.Empty(), y+1, first(), api.OK)
		expectAdd(t, loops.Empty(), y+1, plain(), api.ErrArg)
	}
}

// P5.1: what the limits of a loop allow.
func TestRight(t *testing.T) {
	back, forth := pass(id(1, 0), api.Left), pass(id(1, 0), api.Right)
	inFront := yarns.Pass{Id: id(1, 0), Front: true, Dir: api.Right}
	for _, l := range []loops.Loop{
		{Past: walk(maxPending)}, {Past: passes(back, back)}, {Past: passes(forth, forth, forth)}, {Past: passes(back, inFront)},
		{Past: passes(back, pass(id(1, 1), api.Right), forth)}, {Bed: api.Back}, {New: true}, plain(id(1, 0), id(1, 2), id(1, 3), id(1, 1)),
	} {
		table := tableOf(own(first(), plain(), plain(), plain(), l))
		expectCheck(t, "a loop that is right", table, api.OK)
		expectAdd(t, tableOf(table[0][:4]), 1, l, api.OK)
		expectAdd(t, tableOf(table[0][:4]), 1, plain(id(1, 3), id(1, 2), id(1, 1), id(1, 0), id(1, 0)), api.ErrArg)
	}
	for y := uint8(1); y <= maxYarn; y++ {
		table := make(loops.Table, maxYarn)
		table[y-1] = append(run(5), plain(id(y, 4)), loops.Loop{Past: passes(pass(id(y, 5), api.Left))})
		expectCheck(t, "loops of all yarns", table, api.OK)
	}
}

// P5.1, R2: a loop is pulled through once, by the same loop or by another one.
func TestThere(t *testing.T) {
	base := tableOf(run(4), run(4), nil, nil, nil, run(4))
	all := names(base)
	for _, below := range all {
		for _, a := range all {
			twiceInOne := changed(base, a, func(l *loops.Loop) { l.Through = ids(below, below) })
			expectCheck(t, "twice through one loop", twiceInOne, api.ErrThere)
			apart := changed(base, a, func(l *loops.Loop) { l.Through = ids(below, all[0], all[5], below) })
			expectCheck(t, "twice through one loop", apart, api.ErrThere)
			for _, b := range all {
				if a == b {
					continue
				}
				table := changed(twiceInOne, a, func(l *loops.Loop) { l.Through = ids(below) })
				table = changed(table, b, func(l *loops.Loop) { l.Through = ids(below) })
				expectCheck(t, "through two loops", table, api.ErrThere)
				expectOrder(t, table, nil, api.ErrThere)
				expectAdd(t, table, 0, plain(), api.ErrThere)
			}
		}
	}
	passed := passes(pass(id(1, 0), api.Left), pass(id(1, 0), api.Left))
	twicePast := changed(base, id(2, 0), func(l *loops.Loop) { l.Past, l.Through = passed, ids(id(1, 0)) })
	twicePast = changed(twicePast, id(6, 0), func(l *loops.Loop) { l.Past = passed })
	expectCheck(t, "often past a loop, and once through it", twicePast, api.OK)
}

// P5.1: loops that wait for each other, or for themselves.
func TestNoOrder(t *testing.T) {
	base := tableOf(run(3), run(3), run(3))
	needs := []func(*loops.Loop, api.Id){
		func(l *loops.Loop, name api.Id) { l.Through = append(l.Through, name) },
		func(l *loops.Loop, name api.Id) { l.Past = append(l.Past, pass(name, api.Left)) },
	}
	for _, need := range needs {
		for _, a := range names(base) {
			for n := a.N; n < 3; n++ {
				table := changed(base, a, func(l *loops.Loop) { need(l, id(a.Yarn, n)) })
				expectCheck(t, "a loop that needs itself, or one behind it", table, api.ErrState)
				expectOrder(t, table, nil, api.ErrState)
				expectAdd(t, table, 0, plain(), api.ErrState)
			}
			for _, b := range names(base) {
				if a.Yarn == b.Yarn {
					continue
				}
				table := changed(base, a, func(l *loops.Loop) { need(l, b) })
				expectCheck(t, "a loop that needs another one", table, api.OK)
				for _, again := range needs {
					for n := a.N; n < 3; n++ {
						circle := changed(table, b, func(l *loops.Loop) { again(l, id(a.Yarn, n)) })
						expectCheck(t, "two loops that need each other", circle, api.ErrState)
					}
					for n := range a.N {
						line := changed(table, b, func(l *loops.Loop) { again(l, id(a.Yarn, n)) })
						expectCheck(t, "a loop between two others", line, api.OK)
					}
				}
			}
		}
	}
	// A circle of all yarns.
	var around loops.Table
	for y := range uint8(maxYarn) {
		around = append(around, own(first(id(1+(y+1)%maxYarn, 0))))
	}
	expectCheck(t, "all yarns need each other", around, api.ErrState)
	around[3][0].Through = nil
	expectOrder(t, around, ids(id(4, 0), id(3, 0), id(2, 0), id(1, 0), id(6, 0), id(5, 0)), api.OK)
}

// P5.1, R2: each error comes before those named behind it, wherever it is.
func TestErrorsInOrder(t *testing.T) {
	state := func(t loops.Table) { t[4] = own(first(id(5, 0))) }
	there := func(t loops.Table) { t[5] = own(first(), plain(id(6, 0)), plain(id(6, 0))) }
	arg := func(t loops.Table) { t[3] = own(first(), loops.Loop{Bed: 2}) }
	notNew := func(t loops.Table) { t[3] = own(plain()) }
	limit := func(t loops.Table) { t[0] = run(maxLoops + 1) }
	for i, c := range []struct {
		with []func(loops.Table)
		e    api.Errno
	}{
		{nil, api.OK}, {[]func(loops.Table){state}, api.ErrState}, {[]func(loops.Table){there}, api.ErrThere},
		{[]func(loops.Table){arg}, api.ErrArg}, {[]func(loops.Table){notNew}, api.ErrArg}, {[]func(loops.Table){limit}, api.ErrLimit},
		{[]func(loops.Table){state, there}, api.ErrThere}, {[]func(loops.Table){state, arg}, api.ErrArg},
		{[]func(loops.Table){there, arg}, api.ErrArg}, {[]func(loops.Table){there, notNew}, api.ErrArg}, {[]func(loops.Table){state, notNew}, api.ErrArg},
		{[]func(loops.Table){state, there, arg}, api.ErrArg}, {[]func(loops.Table){state, there, notNew, limit}, api.ErrLimit},
		{[]func(loops.Table){limit, arg}, api.ErrLimit}, {[]func(loops.Table){limit, there}, api.ErrLimit}, {[]func(loops.Table){limit, state}, api.ErrLimit},
	} {
		table := tableOf(run(2))
		for _, change := range c.with {
			change(table)
		}
		if e := loops.Check(table); e != c.e {
			t.Errorf("%d: Check = %d, expected %d", i, e, c.e)
		}
		if c.e == api.OK {
			continue
		}
		expectOrder(t, table, nil, c.e)
		for _, yarn := range []uint8{0, 1, 6, 7} {
			expectAdd(t, table, yarn, loops.Loop{Bed: 2}, c.e)
		}
	}
}

// P5.2: Find and Count accept all tables.
func TestFindAndCount(t *testing.T) {
	tables := append(someTables(), nil, full(), make(loops.Table, 1), make(loops.Table, 300))
	for _, width := range []int{1, 2, 7, 254, 255, 256, 257, 300} {
		table := make(loops.Table, width)
		for y := range table {
			table[y] = run(y % 3)
		}
		table[width-1] = own(loops.Loop{Bed: 9, Through: ids(id(0, -1), id(0, -1)), Past: passes(pass(id(9, 9), 7), pass(id(9, 9), api.Left))})
		tables = append(tables, table)
	}
	for _, table := range tables {
		count := 0
		for y, l := range table {
			count += len(l)
			for n, x := range l {
				if y < 255 {
					expectFind(t, table, id(uint8(y+1), n), x, api.OK)
				}
			}
		}
		if got := loops.Count(table); got != count {
			t.Errorf("Count = %d, expected %d", got, count)
		}
		for y := range 256 {
			for _, n := range extremes {
				expectFind(t, table, id(uint8(y), n), loops.Loop{}, api.ErrNone)
			}
			if y == 0 || y > len(table) {
				expectFind(t, table, id(uint8(y), 0), loops.Loop{}, api.ErrNone)
			} else {
				expectFind(t, table, id(uint8(y), len(table[y-1])), loops.Loop{}, api.ErrNone)
			}
		}
	}
}

// P5.3: the first loop is found, of all tables, and also above names that are of no loop.
func TestAbove(t *testing.T) {
	strange := ids(api.Id{}, id(0, 1), id(1, -1), id(6, 2048), id(255, math.MaxInt), id(3, math.MinInt))
	for _, table := range append(someTables(), nil, make(loops.Table, 300)) {
		above := map[api.Id]api.Id{}
		for _, name := range names(table) {
			for _, below := range table[name.Yarn-1][name.N].Through {
				above[below] = name
			}
		}
		for _, name := range append(names(table), strange...) {
			want, there := above[name]
			expectAbove(t, table, name, want, there)
		}
	}
	for _, below := range append(strange, id(1, 0), id(2, 1), id(7, 0)) {
		table := make(loops.Table, 300)
		for y := range table {
			table[y] = run(3)
		}
		expectAbove(t, table, below, api.Id{}, false)
		table[299][0].Through = ids(below)
		table[255][1].Through = ids(below)
		expectAbove(t, table, below, api.Id{}, false)
		for _, name := range ids(id(255, 2), id(255, 0), id(7, 2), id(7, 1), id(2, 2), id(1, 2), id(1, 1), id(1, 0)) {
			table[name.Yarn-1][name.N].Through = ids(id(9, 9), id(8, 8), id(8, 8), id(7, 7), id(6, 6), below)
			expectAbove(t, table, below, name, true)
		}
	}
	onlyPast := tableOf(own(first(), loops.Loop{Past: passes(pass(id(1, 0), api.Left))}))
	expectAbove(t, onlyPast, id(1, 0), api.Id{}, false)
}

// less tells which name comes first.
func less(a, b api.Id) bool { return a.Yarn < b.Yarn || a.Yarn == b.Yarn && a.N < b.N }

// needed is what Needs must return: it inserts each name where it belongs.
func needed(table loops.Table, name api.Id) []api.Id {
	var l []api.Id
	insert := func(x api.Id) {
		i := 0
		for i < len(l) && less(l[i], x) {
			i++
		}
		if i == len(l) || l[i] != x {
			l = slices.Insert(l, i, x)
		}
	}
	loop := table[name.Yarn-1][name.N]
	for _, p := range loop.Past {
		insert(p.Id)
	}
	for _, x := range loop.Through {
		insert(x)
	}
	if name.N > 0 {
		insert(id(name.Yarn, name.N-1))
	}
	return l
}

// P5.4
func TestNeeds(t *testing.T) {
	for _, table := range append(someTables(), full()) {
		for _, name := range names(table) {
			expectNeeds(t, table, name, needed(table, name)...)
		}
	}
	for _, width := range []int{1, 6, 7, 255, 300} {
		table := make(loops.Table, width)
		last := min(width, 255)
		strange := loops.Loop{
			Through: ids(id(9, 9), id(0, 5), id(9, 9), id(3, math.MaxInt), id(3, math.MinInt), id(255, 0)),
			Past:    passes(pass(id(9, 9), 3), pass(id(0, 5), api.Left), pass(id(0, 5), api.Right), pass(id(3, -1), 0), pass(id(0, 0), 1)),
		}
		table[last-1] = own(strange, strange)
		want := ids(id(0, 0), id(0, 5), id(3, math.MinInt), id(3, -1), id(3, math.MaxInt), id(9, 9), id(255, 0))
		expectNeeds(t, table, id(uint8(last), 0), want...)
		expectNeeds(t, table, id(uint8(last), 1), needed(table, id(uint8(last), 1))...)
		expectNeeds(t, table, id(uint8(last), 2))
		for _, n := range extremes {
			expectNeeds(t, table, id(uint8(last), n))
			expectNeeds(t, table, id(0, n))
		}
		expectNeeds(t, table, id(0, 0))
		if width < 255 {
			expectNeeds(t, table, id(uint8(width+1), 0))
		}
	}
	expectNeeds(t, nil, id(1, 0))
	expectNeeds(t, tableOf(own(first(id(1, 0)), plain(id(1, 1)))), id(1, 0), id(1, 0))
	expectNeeds(t, tableOf(own(first(id(1, 0)), plain(id(1, 1)))), id(1, 1), id(1, 0), id(1, 1))
}

// fits reports whether loops stand in an order of a table.
func fits(table loops.Table, order []api.Id) bool {
	place := map[api.Id]int{}
	for i, name := range order {
		place[name] = i
	}
	for i, name := range order {
		for _, x := range needed(table, name) {
			if place[x] >= i {
				return false
			}
		}
	}
	return true
}

// ordered is what Order must return: the first one of all lists of the loops, by their names, that is an order; nil if none is.
func ordered(table loops.Table) []api.Id {
	all := names(table)
	var try func(order []api.Id) []api.Id
	try = func(order []api.Id) []api.Id {
		if len(order) == len(all) {
			if fits(table, order) {
				return slices.Clone(order)
			}
			return nil
		}
		for _, name := range all {
			if slices.Contains(order, name) {
				continue
			}
			if found := try(append(order, name)); found != nil {
				return found
			}
		}
		return nil
	}
	return try(make([]api.Id, 0, len(all)))
}

// P5.1, P5.5: all tables of these sizes, in which the loops need each other in all ways.
func TestAllSmallTables(t *testing.T) {
	for _, sizes := range [][]int{{1}, {2}, {1, 1}, {2, 1}, {1, 2}, {1, 0, 1, 0, 0, 1}, {0, 2, 0, 0, 2}, {1, 1, 1, 1}} {
		table := make(loops.Table, maxYarn)
		for y, size := range sizes {
			table[y] = run(size)
		}
		all := names(table)
		needs := 1 << len(all)
		combinations := 1
		for range all {
			combinations *= needs
		}
		for code := range combinations {
			rest := code
			for k, name := range all {
				l := loops.Loop{New: true}
				for i, x := range all {
					if rest>>i&1 == 1 && (i+k)%2 == 0 {
						l.Through = append(l.Through, x)
					} else if rest>>i&1 == 1 {
						l.Past = append(l.Past, pass(x, api.Dir(code%2)))
					}
				}
				rest /= needs
				table[name.Yarn-1][name.N] = l
			}
			checkSmall(t, table)
		}
	}
}

// checkSmall checks the order of a table whose loops are right, and fewer than five.
func checkSmall(t *testing.T, table loops.Table) {
	t.Helper()
	pulled := map[api.Id]bool{}
	for _, name := range names(table) {
		for _, x := range table[name.Yarn-1][name.N].Through {
			if pulled[x] {
				expectOrder(t, table, nil, api.ErrThere)
				return
			}
			pulled[x] = true
		}
	}
	if want := ordered(table); want != nil {
		expectOrder(t, table, want, api.OK)
	} else {
		expectOrder(t, table, nil, api.ErrState)
	}
}

// makeable returns the loops that can be made when others are made, in the order of their names.
func makeable(table loops.Table, made map[api.Id]bool) []api.Id {
	var l []api.Id
	for _, name := range names(table) {
		ready := !made[name]
		for _, x := range needed(table, name) {
			ready = ready && made[x]
		}
		if ready {
			l = append(l, name)
		}
	}
	return l
}

// P5.5: at each place stands the least loop that can be made.
func TestOrder(t *testing.T) {
	for _, table := range someTables() {
		expectCheck(t, "a valid table", table, api.OK)
		var want []api.Id
		made := map[api.Id]bool{}
		for len(want) < len(names(table)) {
			name := makeable(table, made)[0]
			made[name] = true
			want = append(want, name)
		}
		expectOrder(t, table, want, api.OK)
	}
	var down []api.Id
	for k := range maxLoops {
		down = append(down, id(uint8(maxYarn-k%maxYarn), k/maxYarn))
	}
	expectOrder(t, full(), down, api.OK)
	expectOrder(t, tableOf(nil, run(maxLoops)), names(tableOf(nil, run(maxLoops))), api.OK)
}

// P5.6: yarns that there are not, after the errors of the table, and before those of the loop.
func TestAddToNoYarn(t *testing.T) {
	for yarn := range 256 {
		if 1 <= yarn && yarn <= maxYarn {
			continue
		}
		for _, table := range []loops.Table{loops.Empty(), example(), full()} {
			expectAdd(t, table, uint8(yarn), first(), api.ErrArg)
			expectAdd(t, table, uint8(yarn), first(id(1, 0)), api.ErrArg)
			expectAdd(t, table, uint8(yarn), first(id(1, 0), id(1, 0)), api.ErrArg)
		}
	}
}

// P5.6: the error of the table with the loop.
func TestAddErrors(t *testing.T) {
	for yarn := uint8(1); yarn <= maxYarn; yarn++ {
		for _, l := range []loops.Loop{first(), plain(), {Bed: 2}, first(id(1, 0)), first(id(1, 0), id(1, 0)), first(id(9, 9))} {
			expectAdd(t, full(), yarn, l, api.ErrLimit)
		}
		n := len(example()[yarn-1])
		expectAdd(t, example(), yarn, first(), api.OK)
		expectAdd(t, example(), yarn, first(id(2, 0)), api.OK)
		expectAdd(t, example(), yarn, first(id(1, 2), id(2, 0)), api.OK)
		expectAdd(t, example(), yarn, first(id(1, 0)), api.ErrThere)
		expectAdd(t, example(), yarn, first(id(2, 0), id(2, 0)), api.ErrThere)
		expectAdd(t, example(), yarn, first(id(yarn, n)), api.ErrState)
		expectAdd(t, example(), yarn, beside(pass(id(yarn, n), api.Left)), api.ErrState)
		expectAdd(t, example(), yarn, first(id(yarn, n), id(yarn, n)), api.ErrThere)
		expectAdd(t, example(), yarn, first(id(yarn, n), id(1, 1)), api.ErrThere)
		expectAdd(t, example(), yarn, first(id(yarn, n+1)), api.ErrArg)
		expectAdd(t, example(), yarn, first(id(1, 0), id(yarn, n+1)), api.ErrArg)
		expectAdd(t, example(), yarn, loops.Loop{Bed: 2, New: true, Through: ids(id(1, 0))}, api.ErrArg)
		expectAdd(t, example(), yarn, beside(pass(id(1, 0), 2)), api.ErrArg)
		expectAdd(t, example(), yarn, beside(pass(id(1, 0), api.Left), pass(id(1, 0), api.Right)), api.ErrArg)
		expectAdd(t, example(), yarn, loops.Loop{New: true, Past: walk(maxPending + 1)}, api.ErrArg)
		expectAdd(t, example(), yarn, loops.Loop{New: true, Past: walk(maxPending)}, api.OK)
	}
	for yarn := uint8(1); yarn <= maxYarn; yarn++ {
		table := tableOf(run(maxLoops - 1))
		expectAdd(t, table, yarn, first(), api.OK)
		expectAdd(t, table, yarn, first(id(1, maxLoops-2)), api.OK)
		expectAdd(t, table, yarn, first(id(1, maxLoops)), api.ErrArg)
	}
}

// someOrder returns an order of a table; k decides which one.
func someOrder(table loops.Table, k int) []api.Id {
	var order []api.Id
	made := map[api.Id]bool{}
	for len(order) < len(names(table)) {
		l := makeable(table, made)
		name := l[(k*7+len(order)*k)%len(l)]
		made[name] = true
		order = append(order, name)
	}
	return order
}

// P5.7: adding the loops in any order gives the table; it begins with a New loop that needs nothing.
func TestAddingInAnOrder(t *testing.T) {
	for i, table := range someTables() {
		if i%5 > 0 || len(names(table)) > 60 {
			continue
		}
		firstOrder, _ := loops.Order(table)
		orders := [][]api.Id{firstOrder}
		for k := range 4 {
			orders = append(orders, someOrder(table, k+i))
		}
		for _, order := range orders {
			if !fits(table, order) {
				t.Fatalf("%v is no order of %v", order, table)
			}
			if len(order) > 0 {
				if l, e := loops.Find(table, order[0]); e != api.OK || !l.New || len(l.Through)+len(l.Past) > 0 {
					t.Errorf("the first loop of an order is %v, %d", l, e)
				}
			}
			built := loops.Empty()
			for _, name := range order {
				l, _ := loops.Find(table, name)
				next, e := loops.Add(built, name.Yarn, l)
				if e != api.OK {
					t.Fatalf("Add of %v to %v: %d", name, built, e)
				}
				built = next
			}
			if !same(built, table) {
				t.Errorf("the loops of %v give %v", table, built)
			}
		}
	}
}

// P5.7: the loops of each yarn come in their order.
func TestYarnsInOrder(t *testing.T) {
	for _, table := range append(someTables(), full()) {
		order, _ := loops.Order(table)
		next := map[uint8]int{}
		for _, name := range order {
			if name.N != next[name.Yarn] {
				t.Errorf("%v comes when %d of its yarn are made", name, next[name.Yarn])
			}
			next[name.Yarn]++
		}
	}
}

// flat lists all that a table has, and what is behind the ends of its slices.
func flat(table loops.Table) []yarns.Pass {
	var l []yarns.Pass
	for _, own := range table[:cap(table)] {
		l = append(l, pass(id(0, len(own)), 9))
		for _, x := range own[:cap(own)] {
			l = append(l, yarns.Pass{Id: id(uint8(x.Bed), len(x.Through)), Front: x.New})
			for _, name := range x.Through[:cap(x.Through)] {
				l = append(l, pass(name, 9))
			}
			l = append(l, pass(id(0, len(x.Past)), 9))
			l = append(l, x.Past[:cap(x.Past)]...)
		}
	}
	return l
}

// spoil changes everything in a table.
func spoil(table loops.Table) {
	for _, own := range table {
		for i := range own {
			clear(own[i].Through)
			clear(own[i].Past)
		}
		clear(own)
	}
	clear(table)
}

// R1, R4: arguments stay as they are, also behind their ends, and results share no memory with them.
func TestMemory(t *testing.T) {
	for _, valid := range []loops.Table{example(), mixed(5, 40), mixed(11, 60)} {
		table := deep(valid, 3)
		order, _ := loops.Order(table)
		// No loop needs the last one of an order.
		l := loops.Loop{New: true, Through: ids(order[len(order)-1]), Past: passes(pass(id(1, 0), api.Left))}
		added := deep(tableOf(own(l)), 3)
		before, addedBefore := flat(table), flat(added)
		want := deep(valid, 0)
		want[1] = append(want[1], l)
		loops.Check(table)
		loops.Count(table)
		next, e := loops.Add(table, 2, added[0][0])
		found, needs := map[api.Id]loops.Loop{}, map[api.Id][]api.Id{}
		for _, name := range names(table) {
			found[name], _ = loops.Find(table, name)
			needs[name] = loops.Needs(table, name)
			loops.Above(table, name)
		}
		if e != api.OK || !slices.Equal(before, flat(table)) || !slices.Equal(addedBefore, flat(added)) {
			t.Errorf("the arguments have changed: %v, %v, %d", table, added, e)
		}
		spoil(table)
		spoil(added)
		if !same(next, want) {
			t.Errorf("Add's result has changed to %v", next)
		}
		expectOrder(t, valid, order, api.OK)
		for _, name := range order {
			expectFind(t, valid, name, found[name], api.OK)
			expectNeeds(t, valid, name, needs[name]...)
		}
	}
}

// R4: two calls return memory of their own, and so are the parts of a result.
func TestResultsAreTheirOwn(t *testing.T) {
	table := example()
	for range 2 {
		l, _ := loops.Find(table, id(2, 0))
		clear(l.Through)
		clear(l.Past)
		order, _ := loops.Order(table)
		clear(order)
		next, _ := loops.Add(table, 2, loops.Loop{Through: ids(id(2, 0))})
		spoil(next)
		clear(loops.Needs(table, id(2, 0)))
		spoil(loops.Empty())
	}
	TestExamples(t)
	past := passes(pass(id(1, 0), api.Left))
	shared := tableOf(own(first(), loops.Loop{Past: past}, loops.Loop{Past: past}))
	next, _ := loops.Add(shared, 1, loops.Loop{Past: past})
	next[0][1].Past[0].Dir = api.Right
	if next[0][2].Past[0].Dir != api.Left || next[0][3].Past[0].Dir != api.Left {
		t.Error("loops of a result share memory")
	}
	one := run(2)
	both, _ := loops.Add(tableOf(one, one), 3, first())
	both[0][1].Bed = 9
	if both[1][1].Bed == 9 {
		t.Error("yarns of a result share memory")
	}
}

// R3: nil slices and empty ones are the same.
func TestNilOrEmpty(t *testing.T) {
	empty := loops.Loop{New: true, Through: []api.Id{}, Past: []yarns.Pass{}}
	table := loops.Table{{empty}, {}, {}, {}, {}, {}}
	expectCheck(t, "empty slices", table, api.OK)
	expectOrder(t, table, ids(id(1, 0)), api.OK)
	expectFind(t, table, id(1, 0), loops.Loop{New: true}, api.OK)
	expectNeeds(t, table, id(1, 0))
	expectAdd(t, table, 2, empty, api.OK)
	expectCheck(t, "an empty table", loops.Table{}, api.ErrWidth)
}
