package yarns_test

import (
	"math"
	"slices"
	"testing"

	"gansey/api"
	"gansey/needles"
	"gansey/yarns"
)

const (
	maxLoops   = 2048
	maxPending = 4096
)

// behind returns the pass of a loop of the yarn 1 behind it.
func behind(n int, d api.Dir) yarns.Pass {
	return yarns.Pass{Id: api.Id{Yarn: 1, N: n}, Dir: d}
}

// The passes of the chapter's examples.
var (
	toLeft  = behind(0, api.Left)
	toRight = behind(0, api.Right)
)

// sideways is no direction.
const sideways = api.Dir(2)

// extremes are numbers that neither a place nor a count nor the number of a loop can be.
var extremes = []int{
	math.MinInt, math.MinInt + 1, math.MinInt32, -1 << 16, -257, -256,
	4097, 1 << 16, 1<<16 + 1, math.MaxInt32, 1 << 32, 1<<32 + 1, math.MaxInt - 1, math.MaxInt,
}

func allPlaces() []int {
	var l []int
	for place := -13; place <= 179; place += 2 {
		l = append(l, place)
	}
	return l
}

func wrongPlaces() []int {
	l := []int{-15, -16, 180, 181, 183}
	for place := -14; place <= 180; place += 2 {
		l = append(l, place)
	}
	return append(l, extremes...)
}

func wrongDirs() []api.Dir {
	var l []api.Dir
	for d := 2; d <= 255; d++ {
		l = append(l, api.Dir(d))
	}
	return l
}

func wrongNames() []api.Id {
	l := []api.Id{{}, {Yarn: 0, N: 1}, {Yarn: 0, N: 2047}, {Yarn: 1, N: -1}, {Yarn: 6, N: -1}, {Yarn: 1, N: 2048}, {Yarn: 6, N: 2048}}
	for yarn := 7; yarn <= 255; yarn++ {
		l = append(l, api.Id{Yarn: uint8(yarn)}, api.Id{Yarn: uint8(yarn), N: 2047})
	}
	for _, n := range extremes {
		l = append(l, api.Id{Yarn: 1, N: n}, api.Id{Yarn: 6, N: n})
	}
	return l
}

func wrongPasses() []yarns.Pass {
	var l []yarns.Pass
	for _, id := range wrongNames() {
		l = append(l, yarns.Pass{Id: id}, yarns.Pass{Id: id, Front: true, Dir: api.Right})
	}
	for _, d := range wrongDirs() {
		l = append(l, behind(0, d), yarns.Pass{Id: api.Id{Yarn: 6, N: 2047}, Front: true, Dir: d})
	}
	return l
}

// run returns passes of different loops, so that none of them cancel.
func run(n int) []yarns.Pass {
	var l []yarns.Pass
	for i := range n {
		l = append(l, yarns.Pass{Id: api.Id{Yarn: uint8(1 + i/maxLoops%6), N: i % maxLoops}, Front: i%3 == 0, Dir: api.Dir(i % 2)})
	}
	return l
}

// in returns a yarn whose carrier is in.
func in(pending ...yarns.Pass) yarns.Yarn {
	return yarns.Yarn{In: true, Place: 7, Count: 5, New: true, Pending: pending}
}

func out(count int) yarns.Yarn { return yarns.Yarn{Count: count} }

// wrongYarns returns yarns that are not valid, each for one reason.
func wrongYarns() []yarns.Yarn {
	l := []yarns.Yarn{
		{Count: -1}, {Count: 2049}, {New: true}, {Place: 7}, {Place: -13}, {Place: 179}, {Place: 1}, {Place: -1}, {Place: 2},
		{Pending: []yarns.Pass{toLeft}}, {Pending: []yarns.Pass{toLeft, toRight}},
		{In: true}, {In: true, Place: 7, Count: -1}, {In: true, Place: 7, Count: 2049},
		in(toLeft, toRight), in(toRight, toLeft), in(behind(1, api.Left), toLeft, toRight), in(toRight, toLeft, behind(1, api.Left)),
		in(run(maxPending + 1)...),
	}
	for _, n := range extremes {
		l = append(l, out(n), yarns.Yarn{Place: n}, yarns.Yarn{In: true, Place: 7, Count: n})
	}
	for _, place := range wrongPlaces() {
		l = append(l, yarns.Yarn{In: true, Place: place})
	}
	for _, p := range wrongPasses() {
		l = append(l, in(p), in(toLeft, p), in(p, toLeft))
	}
	return l
}

// sameYarn compares yarns; a nil slice and an empty one are the same.
func sameYarn(a, b yarns.Yarn) bool {
	return a.In == b.In && a.Place == b.Place && a.Count == b.Count && a.New == b.New && slices.Equal(a.Pending, b.Pending)
}

func sameMade(a, b yarns.Made) bool {
	return a.N == b.N && a.New == b.New && slices.Equal(a.Past, b.Past)
}

func expectPasses(t *testing.T, what string, got, want []yarns.Pass) {
	t.Helper()
	if !slices.Equal(got, want) {
		t.Errorf("%s = %v, expected %v", what, got, want)
	}
	expectTight(t, what, got)
}

// expectTight checks R4: the capacity of what is returned.
func expectTight(t *testing.T, what string, l []yarns.Pass) {
	t.Helper()
	if len(l) != cap(l) {
		t.Errorf("%s: length %d, capacity %d", what, len(l), cap(l))
	}
}

// expectYarn checks a result; with an error it is the zero value.
func expectYarn(t *testing.T, what string, got yarns.Yarn, e api.Errno, want yarns.Yarn, we api.Errno) {
	t.Helper()
	if !sameYarn(got, want) || e != we {
		t.Errorf("%s = %v, %d, expected %v, %d", what, got, e, want, we)
	}
	expectTight(t, what, got.Pending)
}

func expectEnter(t *testing.T, y yarns.Yarn, side api.Dir, want yarns.Yarn, we api.Errno) {
	t.Helper()
	got, e := yarns.Enter(y, side)
	expectYarn(t, "Enter", got, e, want, we)
}

func expectLeave(t *testing.T, y, want yarns.Yarn, we api.Errno) {
	t.Helper()
	got, e := yarns.Leave(y)
	expectYarn(t, "Leave", got, e, want, we)
}

func expectGo(t *testing.T, y yarns.Yarn, place int, passed []yarns.Pass, want yarns.Yarn, we api.Errno) {
	t.Helper()
	got, e := yarns.Go(y, place, passed)
	expectYarn(t, "Go", got, e, want, we)
}

func expectMake(t *testing.T, y, want yarns.Yarn, made yarns.Made, we api.Errno) {
	t.Helper()
	got, m, e := yarns.Make(y)
	expectYarn(t, "Make", got, e, want, we)
	if !sameMade(m, made) {
		t.Errorf("Make made %v, expected %v", m, made)
	}
	expectTight(t, "what Make made", m.Past)
}

// P2.4: what the chapter declares.
func TestMaxPending(t *testing.T) {
	if yarns.MaxPending != maxPending {
		t.Errorf("MaxPending = %d, expected %d", yarns.MaxPending, maxPending)
	}
}

// P2.1
func TestNamed(t *testing.T) {
	for yarn := 1; yarn <= 6; yarn++ {
		for n := range maxLoops {
			if id := (api.Id{Yarn: uint8(yarn), N: n}); !yarns.Named(id) {
				t.Errorf("%v is not named", id)
			}
		}
	}
	for _, id := range wrongNames() {
		if yarns.Named(id) {
			t.Errorf("%v is named", id)
		}
	}
}

// P2.1, R3
func TestCheckValid(t *testing.T) {
	l := []yarns.Yarn{
		{}, out(1), out(2047), out(2048), {Pending: []yarns.Pass{}},
		in(), in(toLeft), in(toRight), in(toLeft, toLeft), in(run(maxPending)...), {In: true, Place: -13, Count: 2048}, {In: true, Place: 179, New: true, Count: 2048},
		in(toLeft, behind(1, api.Right)), in(toLeft, yarns.Pass{Id: toLeft.Id, Front: true, Dir: api.Right}),
		in(toLeft, yarns.Pass{Id: api.Id{Yarn: 2}, Dir: api.Right}), in(toLeft, behind(1, api.Left), toRight),
		in(yarns.Pass{Id: api.Id{Yarn: 6, N: 2047}, Front: true, Dir: api.Right}),
	}
	for _, place := range allPlaces() {
		l = append(l, yarns.Yarn{In: true, Place: place})
	}
	for _, y := range l {
		if e := yarns.Check(y); e != api.OK {
			t.Errorf("Check(%v) = %d, expected OK", y, e)
		}
	}
}

// P2.1, P1
func TestCheckInvalid(t *testing.T) {
	for _, y := range wrongYarns() {
		if e := yarns.Check(y); e != api.ErrArg {
			t.Errorf("Check(%v) = %d, expected ErrArg", y, e)
		}
	}
}

// P2.1: this error comes first, whatever else is wrong.
func TestCheckComesFirst(t *testing.T) {
	for _, y := range wrongYarns() {
		for _, d := range []api.Dir{api.Left, api.Right, sideways} {
			expectEnter(t, y, d, yarns.Yarn{}, api.ErrArg)
		}
		expectLeave(t, y, yarns.Yarn{}, api.ErrArg)
		expectGo(t, y, 9, nil, yarns.Yarn{}, api.ErrArg)
		expectGo(t, y, 9, []yarns.Pass{toLeft}, yarns.Yarn{}, api.ErrArg)
		expectMake(t, y, yarns.Yarn{}, yarns.Made{}, api.ErrArg)
	}
}

// P2.2: the examples of the chapter, and lists without passes.
func TestReduceExamples(t *testing.T) {
	L, R := toLeft, toRight
	for _, c := range []struct{ l, want []yarns.Pass }{
		{nil, nil}, {[]yarns.Pass{}, nil},
		{[]yarns.Pass{L, R}, nil},
		{[]yarns.Pass{L, L, R}, []yarns.Pass{L}},
		{[]yarns.Pass{R, L, L, R, R}, []yarns.Pass{R}},
		{[]yarns.Pass{L, L, R, R}, nil},
		{[]yarns.Pass{L}, []yarns.Pass{L}},
		{[]yarns.Pass{R, R}, []yarns.Pass{R, R}},
	} {
		expectPasses(t, "Reduce", yarns.Reduce(c.l), c.want)
	}
}

// P2.2: what differs in the loop or the side does not cancel, nor does what goes neither left nor right.
func TestReduceKeeps(t *testing.T) {
	front := yarns.Pass{Id: toLeft.Id, Front: true, Dir: api.Right}
	other := yarns.Pass{Id: api.Id{Yarn: 2}, Dir: api.Right}
	for _, l := range [][]yarns.Pass{
		{toLeft, toLeft}, {toRight, toRight}, {toLeft, front}, {front, toLeft}, {toLeft, other}, {other, toLeft},
		{toLeft, behind(1, api.Right)}, {behind(1, api.Right), toLeft}, {toLeft, behind(1, api.Left), toRight},
	} {
		expectPasses(t, "Reduce", yarns.Reduce(l), l)
	}
	for _, d := range wrongDirs() {
		p := behind(0, d)
		for _, q := range []yarns.Pass{toLeft, toRight, p, behind(0, d^1), behind(0, ^d)} {
			expectPasses(t, "Reduce", yarns.Reduce([]yarns.Pass{p, q}), []yarns.Pass{p, q})
			expectPasses(t, "Reduce", yarns.Reduce([]yarns.Pass{q, p}), []yarns.Pass{q, p})
		}
	}
}

// P2.2: names need not be valid.
func TestReduceOfWrongNames(t *testing.T) {
	for _, id := range wrongNames() {
		p, q := yarns.Pass{Id: id, Front: true, Dir: api.Left}, yarns.Pass{Id: id, Front: true, Dir: api.Right}
		expectPasses(t, "Reduce", yarns.Reduce([]yarns.Pass{p, q}), nil)
		expectPasses(t, "Reduce", yarns.Reduce([]yarns.Pass{q, p, p}), []yarns.Pass{p})
		expectPasses(t, "Reduce", yarns.Reduce([]yarns.Pass{p, toRight, q}), []yarns.Pass{p, toRight, q})
	}
}

// cancel is the chapter's definition.
func cancel(p, q yarns.Pass) bool {
	opposite := p.Dir == api.Left && q.Dir == api.Right || p.Dir == api.Right && q.Dir == api.Left
	return p.Id == q.Id && p.Front == q.Front && opposite
}

// reduceLast takes two passes away at a time, the last ones that cancel.
func reduceLast(l []yarns.Pass) []yarns.Pass {
	l = slices.Clone(l)
	for i := len(l) - 2; i >= 0; i-- {
		if cancel(l[i], l[i+1]) {
			l = slices.Delete(l, i, i+2)
			i = len(l) - 1
		}
	}
	return l
}

// eachList calls a function with all lists of at most n of some passes.
func eachList(of []yarns.Pass, n int, f func(l []yarns.Pass)) {
	var grow func(l []yarns.Pass)
	grow = func(l []yarns.Pass) {
		f(l)
		if len(l) == n {
			return
		}
		for _, p := range of {
			grow(append(l[:len(l):len(l)], p))
		}
	}
	grow(nil)
}

// P2.2, P2.6, R1: all short lists; taking away at the other end leaves the same, and what is reduced stays.
func TestReduceOfShortLists(t *testing.T) {
	some := []yarns.Pass{
		toLeft, toRight, behind(0, sideways), behind(3, api.Left), behind(3, api.Right),
		{Id: toLeft.Id, Front: true, Dir: api.Left}, {Id: toLeft.Id, Front: true, Dir: api.Right},
	}
	eachList(some, 6, func(l []yarns.Pass) {
		given := slices.Clone(l)
		got := yarns.Reduce(l)
		expectPasses(t, "Reduce", got, reduceLast(l))
		expectPasses(t, "Reduce of what is reduced", yarns.Reduce(got), got)
		if !slices.Equal(l, given) {
			t.Errorf("Reduce of %v changed it to %v", given, l)
		}
	})
}

// P2.6: parts may be reduced first, in any way.
func TestReduceOfParts(t *testing.T) {
	some := []yarns.Pass{toLeft, toRight, behind(0, sideways), behind(3, api.Left)}
	eachList(some, 6, func(l []yarns.Pass) {
		want := yarns.Reduce(l)
		for i := range len(l) + 1 {
			left, right := yarns.Reduce(l[:i]), yarns.Reduce(l[i:])
			expectPasses(t, "Reduce of a part reduced", yarns.Reduce(slices.Concat(left, l[i:])), want)
			expectPasses(t, "Reduce of the other part reduced", yarns.Reduce(slices.Concat(l[:i], right)), want)
			expectPasses(t, "Reduce of parts reduced", yarns.Reduce(slices.Concat(left, right)), want)
		}
	})
}

// P2.2, P1: long lists, which are reduced from within, at their end, and again and again.
func TestReduceOfLongLists(t *testing.T) {
	there := run(100000)
	back := yarns.Inverse(there)
	expectPasses(t, "Reduce there", yarns.Reduce(there), there)
	expectPasses(t, "Reduce there and back", yarns.Reduce(slices.Concat(there, back)), nil)
	expectPasses(t, "Reduce there and half back", yarns.Reduce(slices.Concat(there, back[:50000])), there[:50000])
	expectPasses(t, "Reduce with nothing in between", yarns.Reduce(slices.Concat(there, slices.Repeat([]yarns.Pass{behind(9, api.Left), behind(9, api.Right)}, 50000))), there)
}

// P2.2: the examples of the chapter, other directions, and lists without passes.
func TestInverse(t *testing.T) {
	L, R := toLeft, toRight
	front := func(d api.Dir) yarns.Pass { return yarns.Pass{Id: api.Id{Yarn: 6, N: 4}, Front: true, Dir: d} }
	for _, c := range []struct{ l, want []yarns.Pass }{
		{nil, nil}, {[]yarns.Pass{}, nil},
		{[]yarns.Pass{L, L}, []yarns.Pass{R, R}},
		{[]yarns.Pass{R}, []yarns.Pass{L}},
		{[]yarns.Pass{L, R}, []yarns.Pass{L, R}},
		{[]yarns.Pass{L, front(api.Left), front(api.Right)}, []yarns.Pass{front(api.Left), front(api.Right), R}},
		{[]yarns.Pass{front(api.Right), behind(2, api.Right), L}, []yarns.Pass{R, behind(2, api.Left), front(api.Left)}},
	} {
		expectPasses(t, "Inverse", yarns.Inverse(c.l), c.want)
	}
	for _, d := range wrongDirs() {
		expectPasses(t, "Inverse", yarns.Inverse([]yarns.Pass{front(d), L, behind(1, d)}), []yarns.Pass{behind(1, api.Right), R, front(api.Right)})
	}
	for _, id := range wrongNames() {
		expectPasses(t, "Inverse", yarns.Inverse([]yarns.Pass{{Id: id, Front: true}}), []yarns.Pass{{Id: id, Front: true, Dir: api.Right}})
	}
}

// P2.6: a list of passes that go left or right, and its inverse behind it, are nothing; the inverse is its own inverse.
func TestInverseCancels(t *testing.T) {
	some := []yarns.Pass{toLeft, toRight, {Id: toLeft.Id, Front: true, Dir: api.Left}, {Dir: api.Right}}
	eachList(some, 6, func(l []yarns.Pass) {
		back := yarns.Inverse(l)
		expectPasses(t, "Reduce of a list and its inverse", yarns.Reduce(slices.Concat(l, back)), nil)
		expectPasses(t, "Reduce of an inverse and its list", yarns.Reduce(slices.Concat(back, l)), nil)
		expectPasses(t, "Inverse of the inverse", yarns.Inverse(back), l)
	})
}

// P2.3: the examples of the chapter, and both ends.
func TestEnter(t *testing.T) {
	y, e := yarns.Enter(yarns.Yarn{}, api.Right)
	expectYarn(t, "Enter", y, e, yarns.Yarn{In: true, Place: 179, New: true}, api.OK)
	expectEnter(t, y, api.Right, yarns.Yarn{}, api.ErrYarn)
	expectEnter(t, yarns.Yarn{}, api.Left, yarns.Yarn{In: true, Place: -13, New: true}, api.OK)
	for _, count := range []int{1, 17, 2047, 2048} {
		expectEnter(t, out(count), api.Left, yarns.Yarn{In: true, Place: needles.LeftEnd, Count: count, New: true}, api.OK)
		expectEnter(t, out(count), api.Right, yarns.Yarn{In: true, Place: needles.RightEnd, Count: count, New: true}, api.OK)
	}
}

// P2.3, R2: the side is looked at before the carrier.
func TestEnterInvalid(t *testing.T) {
	for _, d := range wrongDirs() {
		expectEnter(t, yarns.Yarn{}, d, yarns.Yarn{}, api.ErrArg)
		expectEnter(t, in(toLeft), d, yarns.Yarn{}, api.ErrArg)
	}
	for _, y := range []yarns.Yarn{in(), in(toLeft), {In: true, Place: -13}, {In: true, Place: 179, Count: 2048}} {
		expectEnter(t, y, api.Left, yarns.Yarn{}, api.ErrYarn)
		expectEnter(t, y, api.Right, yarns.Yarn{}, api.ErrYarn)
	}
}

// P2.3
func TestLeave(t *testing.T) {
	for _, y := range []yarns.Yarn{
		in(), in(toLeft, toLeft), in(run(maxPending)...), {In: true, Place: 179}, {In: true, Place: -13, Count: 2048, New: true},
	} {
		expectLeave(t, y, out(y.Count), api.OK)
	}
	for _, count := range []int{0, 1, 2048} {
		expectLeave(t, out(count), yarns.Yarn{}, api.ErrYarn)
	}
}

// P2.3: a carrier that goes out and comes in again loses what is pending, and its next loop is New again.
func TestLeaveAndEnter(t *testing.T) {
	y, _, e := yarns.Make(in(toLeft))
	if e != api.OK {
		t.Fatalf("Make: %d", e)
	}
	y, e = yarns.Go(y, 11, []yarns.Pass{toRight})
	expectYarn(t, "Go", y, e, yarns.Yarn{In: true, Place: 11, Count: 6, Pending: []yarns.Pass{toRight}}, api.OK)
	y, e = yarns.Leave(y)
	expectYarn(t, "Leave", y, e, out(6), api.OK)
	expectEnter(t, y, api.Left, yarns.Yarn{In: true, Place: -13, Count: 6, New: true}, api.OK)
}

// P2.4, P2.5: the examples of the chapter.
func TestGoAndMakeExamples(t *testing.T) {
	y, _ := yarns.Enter(yarns.Yarn{}, api.Right)
	y, e := yarns.Go(y, 7, []yarns.Pass{toLeft})
	expectYarn(t, "Go", y, e, yarns.Yarn{In: true, Place: 7, New: true, Pending: []yarns.Pass{toLeft}}, api.OK)
	expectGo(t, y, 8, nil, yarns.Yarn{}, api.ErrArg)
	expectGo(t, yarns.Yarn{}, 7, nil, yarns.Yarn{}, api.ErrYarn)
	once := yarns.Yarn{In: true, Place: 7, Count: 1}
	expectMake(t, y, once, yarns.Made{N: 0, New: true, Past: []yarns.Pass{toLeft}}, api.OK)
	expectMake(t, once, yarns.Yarn{In: true, Place: 7, Count: 2}, yarns.Made{N: 1}, api.OK)
}

// P2.4: every place, and passes behind those that are pending.
func TestGo(t *testing.T) {
	other := behind(3, api.Right)
	for _, place := range allPlaces() {
		for _, c := range []struct{ pending, passed, want []yarns.Pass }{
			{nil, nil, nil},
			{nil, []yarns.Pass{}, nil},
			{nil, []yarns.Pass{toLeft}, []yarns.Pass{toLeft}},
			{[]yarns.Pass{toLeft}, nil, []yarns.Pass{toLeft}},
			{[]yarns.Pass{toLeft}, []yarns.Pass{toRight}, nil},
			{[]yarns.Pass{toLeft}, []yarns.Pass{other}, []yarns.Pass{toLeft, other}},
			{[]yarns.Pass{toLeft, toLeft}, []yarns.Pass{toRight, other}, []yarns.Pass{toLeft, other}},
			{[]yarns.Pass{other}, []yarns.Pass{toRight, toLeft, toLeft}, []yarns.Pass{other, toLeft}},
			{[]yarns.Pass{other, toLeft}, []yarns.Pass{toLeft, toRight, toRight, other}, []yarns.Pass{other, other}},
		} {
			for _, isNew := range []bool{false, true} {
				y := yarns.Yarn{In: true, Place: 179, Count: 9, New: isNew, Pending: c.pending}
				expectGo(t, y, place, c.passed, yarns.Yarn{In: true, Place: place, Count: 9, New: isNew, Pending: c.want}, api.OK)
			}
		}
	}
}

// P2.4, R2: places and passes are looked at before the carrier.
func TestGoInvalid(t *testing.T) {
	for _, y := range []yarns.Yarn{in(), in(toLeft), out(0), out(2048), in(run(maxPending)...)} {
		for _, place := range wrongPlaces() {
			expectGo(t, y, place, nil, yarns.Yarn{}, api.ErrArg)
			expectGo(t, y, place, []yarns.Pass{toLeft}, yarns.Yarn{}, api.ErrArg)
		}
		for _, p := range wrongPasses() {
			expectGo(t, y, 7, []yarns.Pass{p}, yarns.Yarn{}, api.ErrArg)
			expectGo(t, y, 7, []yarns.Pass{toLeft, p}, yarns.Yarn{}, api.ErrArg)
			expectGo(t, y, 7, []yarns.Pass{p, toLeft}, yarns.Yarn{}, api.ErrArg)
		}
	}
	for _, place := range allPlaces() {
		expectGo(t, out(3), place, nil, yarns.Yarn{}, api.ErrYarn)
		expectGo(t, out(3), place, []yarns.Pass{toLeft}, yarns.Yarn{}, api.ErrYarn)
		expectGo(t, out(3), place, run(maxPending+1), yarns.Yarn{}, api.ErrYarn)
	}
}

// P2.4: wrong passes that would cancel are wrong still.
func TestGoWrongPassesThatCancel(t *testing.T) {
	for _, id := range wrongNames() {
		expectGo(t, in(), 7, []yarns.Pass{{Id: id}, {Id: id, Dir: api.Right}}, yarns.Yarn{}, api.ErrArg)
	}
}

// P2.4: what counts is how many passes there are when they are reduced.
func TestGoLimit(t *testing.T) {
	all := run(maxPending)
	last := all[maxPending-1]
	next := behind(7, api.Left)
	at := func(pending []yarns.Pass) yarns.Yarn {
		return yarns.Yarn{In: true, Place: 9, Count: 5, New: true, Pending: pending}
	}
	expectGo(t, in(), 9, all, at(all), api.OK)
	expectGo(t, in(all[:4000]...), 9, all[4000:], at(all), api.OK)
	expectGo(t, in(all...), 9, nil, at(all), api.OK)
	expectGo(t, in(all...), 9, yarns.Inverse(all), at(nil), api.OK)
	expectGo(t, in(all...), 9, append(yarns.Inverse([]yarns.Pass{last}), next), at(append(slices.Clone(all[:maxPending-1]), next)), api.OK)
	expectGo(t, in(all...), 9, []yarns.Pass{next, behind(7, api.Right)}, at(all), api.OK)
	expectGo(t, in(), 9, slices.Repeat([]yarns.Pass{toLeft, toRight}, maxPending), at(nil), api.OK)

	expectGo(t, in(all...), 9, []yarns.Pass{next}, yarns.Yarn{}, api.ErrLimit)
	expectGo(t, in(), 9, run(maxPending+1), yarns.Yarn{}, api.ErrLimit)
	expectGo(t, in(all[:4000]...), 9, append(slices.Clone(all[4000:]), next), yarns.Yarn{}, api.ErrLimit)
	expectGo(t, in(all...), 9, []yarns.Pass{next, behind(7, api.Right), next}, yarns.Yarn{}, api.ErrLimit)
	expectGo(t, in(), 9, run(5*maxPending), yarns.Yarn{}, api.ErrLimit)
}

// P2.6: a carrier that goes somewhere and back, past the inverse, has the same passes pending.
func TestGoAndBack(t *testing.T) {
	some := []yarns.Pass{toLeft, toRight, behind(3, api.Left)}
	for _, y := range []yarns.Yarn{in(), in(toLeft), in(toRight, toRight), in(toLeft, behind(3, api.Right)), in(run(4000)...)} {
		eachList(some, 5, func(l []yarns.Pass) {
			there, e := yarns.Go(y, 21, l)
			if e != api.OK {
				t.Fatalf("Go past %v: %d", l, e)
			}
			expectGo(t, there, y.Place, yarns.Inverse(l), y, api.OK)
		})
	}
}

// P2.5
func TestMake(t *testing.T) {
	for _, count := range []int{0, 1, 2, 2047} {
		for _, isNew := range []bool{false, true} {
			for _, pending := range [][]yarns.Pass{nil, {}, {toLeft}, {toLeft, toLeft, behind(3, api.Right)}, run(maxPending)} {
				y := yarns.Yarn{In: true, Place: 31, Count: count, New: isNew, Pending: pending}
				expectMake(t, y, yarns.Yarn{In: true, Place: 31, Count: count + 1}, yarns.Made{N: count, New: isNew, Past: pending}, api.OK)
			}
		}
	}
}

// P2.5, R2: the carrier is looked at before the number of loops.
func TestMakeInvalid(t *testing.T) {
	expectMake(t, yarns.Yarn{In: true, Place: 7, Count: 2048}, yarns.Yarn{}, yarns.Made{}, api.ErrLimit)
	expectMake(t, yarns.Yarn{In: true, Place: 7, Count: 2048, New: true, Pending: []yarns.Pass{toLeft}}, yarns.Yarn{}, yarns.Made{}, api.ErrLimit)
	for _, count := range []int{0, 1, 2047, 2048} {
		expectMake(t, out(count), yarns.Yarn{}, yarns.Made{}, api.ErrYarn)
	}
}

// P2.5: a yarn makes MaxLoops loops, whose names are all valid, and no more.
func TestMakeAll(t *testing.T) {
	y := yarns.Yarn{In: true, Place: -13, New: true}
	for n := range maxLoops {
		next, made, e := yarns.Make(y)
		if e != api.OK || !sameMade(made, yarns.Made{N: n, New: n == 0}) || !yarns.Named(api.Id{Yarn: 1, N: made.N}) {
			t.Fatalf("loop %d: %v, %d", n, made, e)
		}
		y = next
	}
	expectMake(t, y, yarns.Yarn{}, yarns.Made{}, api.ErrLimit)
}

// results returns the slices that functions return for a yarn and a list of passes.
func results(y yarns.Yarn, l []yarns.Pass) map[string][]yarns.Pass {
	gone, _ := yarns.Go(y, 9, l)
	stays, _ := yarns.Go(y, 9, nil)
	_, made, _ := yarns.Make(y)
	return map[string][]yarns.Pass{
		"Reduce": yarns.Reduce(l), "Inverse": yarns.Inverse(l), "Go": gone.Pending, "Go past nothing": stays.Pending, "Make": made.Past,
	}
}

// withRoom returns passes with others behind their end, within their capacity.
func withRoom(l []yarns.Pass) []yarns.Pass {
	return append(slices.Clone(l), slices.Repeat([]yarns.Pass{behind(1000, api.Right)}, 3*len(l)+3)...)[:len(l)]
}

// R1, R4: results are new memory without room behind them, and arguments stay as they are, also behind their ends.
func TestMemory(t *testing.T) {
	for _, n := range []int{1, 2, 3, 5, 7, 9, 11, 17, 33, 100, 1000, 2048} {
		pending := withRoom(run(n))
		l := withRoom(slices.Concat(yarns.Inverse(run(n)), run(n), run(n)))
		allPending, all := pending[:cap(pending)], l[:cap(l)]
		givenPending, given := slices.Clone(allPending), slices.Clone(all)
		first, second := results(in(pending...), l), results(in(pending...), l)
		for name, got := range first {
			if len(got) < n {
				t.Errorf("%s of %d passes: %v", name, n, got)
			}
			expectTight(t, name, got)
			for i := range got {
				got[i] = behind(8, api.Left)
			}
		}
		if !slices.Equal(allPending, givenPending) || !slices.Equal(all, given) {
			t.Errorf("%d passes: an argument was changed, or is shared with a result", n)
		}
		for name, got := range results(in(pending...), l) {
			expectPasses(t, name+" called again", got, second[name])
		}
	}
}

// R4: the parts of what is returned are not shared with each other, nor kept.
func TestResultsStay(t *testing.T) {
	l := []yarns.Pass{toLeft, toLeft}
	y, e := yarns.Go(in(), 9, l)
	if e != api.OK {
		t.Fatalf("Go: %d", e)
	}
	reduced, inverse := yarns.Reduce(l), yarns.Inverse(l)
	_, made, _ := yarns.Make(y)
	l[0] = behind(8, api.Right)
	expectPasses(t, "what is pending", y.Pending, []yarns.Pass{toLeft, toLeft})
	expectPasses(t, "Reduce", reduced, []yarns.Pass{toLeft, toLeft})
	expectPasses(t, "Inverse", inverse, []yarns.Pass{toRight, toRight})
	y.Pending[1] = behind(8, api.Right)
	expectPasses(t, "what was made", made.Past, []yarns.Pass{toLeft, toLeft})
}

// P1: valid yarns lead to valid yarns.
func TestResultsAreValid(t *testing.T) {
	for _, y := range []yarns.Yarn{{}, out(2048), in(), in(toLeft), in(run(maxPending)...), {In: true, Place: 179, Count: 2047}} {
		entered, _ := yarns.Enter(y, api.Left)
		left, _ := yarns.Leave(y)
		gone, _ := yarns.Go(y, 5, []yarns.Pass{toRight, toLeft, toRight})
		made, _, _ := yarns.Make(y)
		for _, next := range []yarns.Yarn{entered, left, gone, made} {
			if e := yarns.Check(next); e != api.OK {
				t.Errorf("behind %v there is %v, which has %d", y, next, e)
			}
		}
	}
}
