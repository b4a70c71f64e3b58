package hazards_test

import (
	"fmt"
	"slices"
	"testing"

	"gansey/api"
	"gansey/hazards"
	"gansey/machines"
	"gansey/needles"
	"gansey/operations"
	"gansey/stacks"
)

// steps returns the states before, between and behind the operations of a program that runs.
func steps(t *testing.T, l []operations.Op) []machines.State {
	t.Helper()
	states := []machines.State{machines.Start()}
	for i, o := range l {
		s, e := machines.Step(states[i], o)
		if e != api.OK {
			t.Fatalf("%v: the operation %d has the error %d", l, i, e)
		}
		states = append(states, s)
	}
	return states
}

// standing returns the position at which a loop is held.
func standing(s machines.State, name api.Id) (int, bool) {
	n, e := stacks.Find(s.Beds, name)
	if e != api.OK {
		return 0, false
	}
	// Four spots are a position.
	return (needles.Spot(n, s.Rack) + 400) / 4, true
}

func far(a, b int) bool { return a-b > 6 || b-a > 6 }

// modelReport is a second way of finding hazards: it takes the kinds one by one, and looks at the states.
func modelReport(t *testing.T, l []operations.Op) []hazards.Hazard {
	t.Helper()
	states := steps(t, l)
	end := states[len(l)]
	var found []hazards.Hazard
	for i := range l {
		before, behind := states[i], states[i+1]
		found = slices.Concat(found, floats(states, i, end), stretches(before, behind, i, end), hooks(before, behind, i), undone(before, behind, i, end))
	}
	for y := range uint8(maxYarn) {
		for n := range end.Fabric.Yarns[y] {
			if slices.Contains(end.Fabric.Held, id(y+1, n)) {
				found = append(found, hazards.Hazard{Op: len(l), Kind: hazards.Rest, Id: id(y+1, n)})
			}
		}
	}
	return found
}

func floats(states []machines.State, i int, end machines.State) []hazards.Hazard {
	for y := range uint8(maxYarn) {
		n := states[i].Yarns[y].Count
		if states[i+1].Yarns[y].Count == n || end.Fabric.Yarns[y][n].New {
			continue
		}
		first := slices.IndexFunc(states, func(s machines.State) bool { return s.Yarns[y].Count == n })
		a, _ := standing(states[first], id(y+1, n-1))
		b, _ := standing(states[i+1], id(y+1, n))
		if far(a, b) {
			return []hazards.Hazard{{Op: i, Kind: hazards.Float, Id: id(y+1, n)}}
		}
	}
	return nil
}

// stretched reports whether a loop and the one before it are held, and too far apart.
func stretched(s machines.State, name api.Id) bool {
	a, held := standing(s, id(name.Yarn, name.N-1))
	b, too := standing(s, name)
	return held && too && far(a, b)
}

func stretches(before, behind machines.State, i int, end machines.State) []hazards.Hazard {
	var found []hazards.Hazard
	for y := range uint8(maxYarn) {
		for n, loop := range end.Fabric.Yarns[y] {
			if name := id(y+1, n); !loop.New && stretched(behind, name) && !stretched(before, name) {
				found = append(found, hazards.Hazard{Op: i, Kind: hazards.Stretch, Id: name})
			}
		}
	}
	return found
}

func hooks(before, behind machines.State, i int) []hazards.Hazard {
	var found []hazards.Hazard
	for at := 1; at <= maxNeedle; at++ {
		for _, n := range []api.Needle{front(at), back(at)} {
			if was, is := stacks.At(before.Beds, n), stacks.At(behind.Beds, n); len(is) > 3 && len(was) <= 3 {
				found = append(found, hazards.Hazard{Op: i, Kind: hazards.Hook, Id: is[len(is)-1]})
			}
		}
	}
	return found
}

func undone(before, behind machines.State, i int, end machines.State) []hazards.Hazard {
	var found []hazards.Hazard
	for _, name := range behind.Fabric.Fallen {
		own := end.Fabric.Yarns[name.Yarn-1]
		fastened := name.N+1 == len(own) && len(own[name.N].Through) > 0
		if !fastened && !slices.Contains(before.Fabric.Fallen, name) {
			found = append(found, hazards.Hazard{Op: i, Kind: hazards.Undone, Id: name})
		}
	}
	return found
}

// expectLike checks that a program that runs has the hazards that the model finds, and returns them.
func expectLike(t *testing.T, l []operations.Op) []hazards.Hazard {
	t.Helper()
	want := modelReport(t, l)
	expectReport(t, operations.Format(l), l, show(want))
	return want
}

// random returns a function that returns numbers from 0 on, below a limit.
func random(k int) func(below int) int {
	state := uint32(k)*2654435761 + 1
	return func(below int) int {
		state = state*1664525 + 1013904223
		return int(state>>16) % below
	}
}

// someOp returns a valid operation on one of the first needles and yarns.
func someOp(random func(int) int, width, colours int) operations.Op {
	n := api.Needle{Bed: api.Bed(random(2)), At: 1 + random(width)}
	d, y := api.Dir(random(2)), uint8(1+random(colours))
	switch k := random(30); {
	case k < 2:
		return operations.Op{Kind: operations.In, Dir: d, Yarn: y}
	case k < 3:
		return operations.Op{Kind: operations.Out, Yarn: y}
	case k < 8:
		return operations.Op{Kind: operations.Rack, Rack: random(2*maxRack+1) - maxRack}
	case k < 20:
		return operations.Op{Kind: operations.Knit + operations.Kind(random(3)), Dir: d, Needle: n, Yarn: y}
	case k < 27:
		return operations.Op{Kind: operations.Xfer, Needle: n}
	}
	return operations.Op{Kind: operations.Drop, Needle: n}
}

// walk returns those of some operations that run one after the other.
func walk(k, count, width, colours int) []operations.Op {
	random := random(k)
	s := machines.Start()
	var l []operations.Op
	for range count {
		o := someOp(random, width, colours)
		if next, e := machines.Step(s, o); e == api.OK {
			l, s = append(l, o), next
		}
	}
	return l
}

// P9.1, P9.2: long programs, compared with the model; each kind comes up often.
func TestWalks(t *testing.T) {
	counts := map[hazards.Kind]int{}
	for k := range 400 {
		width, colours := 2+k%13, 1+k%maxYarn
		if k%10 == 9 {
			width = maxNeedle
		}
		for _, h := range expectLike(t, walk(k, 250, width, colours)) {
			counts[h.Kind]++
		}
	}
	for kind, word := range kindWords {
		if counts[kind] < 100 {
			t.Errorf("only %d %s", counts[kind], word)
		}
	}
}

// begun is operations with which programs begin, and those of which they go on.
type begun struct {
	begin, with string
	length      int
}

// all visits all programs that run of these operations, up to a length.
func (b begun) all(t *testing.T, visit func(l []operations.Op)) {
	t.Helper()
	with := program(t, b.with)
	var grow func(l []operations.Op, s machines.State, left int)
	grow = func(l []operations.Op, s machines.State, left int) {
		visit(l)
		if left == 0 {
			return
		}
		for _, o := range with {
			if next, e := machines.Step(s, o); e == api.OK {
				grow(append(slices.Clip(l), o), next, left-1)
			}
		}
	}
	begin := program(t, b.begin)
	grow(begin, steps(t, begin)[len(begin)], b.length)
}

// small are all programs of some operations each.
func small() []begun {
	return []begun{
		{"", "in 1 left; in 1 right; out 1; knit right f1 1; knit left f1 1; tuck right b8 1; tuck left b8 1; miss right f1 1; xfer f1; xfer b8; drop f1; rack 0; rack -1", 5},
		{"in 1 left; in 2 right; knit right f1 1; knit right b7 1; knit left f8 2", "knit right f8 1; knit left b7 1; tuck left f1 1; tuck left f1 2; knit left b7 2; xfer f1; xfer b7; xfer f8; rack -1; rack 0; rack 2; drop f1; drop b7; out 1", 4},
		{"in 1 left; tuck right f2 1; tuck left f2 1; in 2 left; tuck right b2 2; tuck left b2 2", "tuck right f2 1; tuck left f2 1; tuck right b2 2; knit right f2 2; knit right f2 1; miss right f9 1; miss left b2 2; xfer f2; xfer b2; rack 1; rack 0; drop f2", 4},
	}
}

// P9.1, P9.2: all short programs, compared with the model.
func TestAllPrograms(t *testing.T) {
	for _, b := range small() {
		count := 0
		b.all(t, func(l []operations.Op) {
			expectLike(t, l)
			count++
		})
		if count < 1000 {
			t.Errorf("%q: only %d programs", b.with, count)
		}
	}
}

// P9.1, P9.2: with an operation that cannot be done in it, a program has its error.
func TestWalksWithErrors(t *testing.T) {
	for k := range 100 {
		l := walk(5000+k, 60, 2+k%9, 1+k%3)
		random := random(k)
		for range 20 {
			at := random(len(l) + 1)
			wrong := slices.Insert(slices.Clone(l), at, someOp(random, 9, 3))
			if _, n, e := machines.Run(machines.Start(), wrong); e != api.OK {
				expectError(t, operations.Format(wrong), wrong, n, e)
			}
		}
	}
}

// early are the hazards of kinds that show at once, of operations before one.
func early(l []hazards.Hazard, op int) []hazards.Hazard {
	var out []hazards.Hazard
	for _, h := range l {
		if h.Op < op && h.Kind <= hazards.Hook {
			out = append(out, h)
		}
	}
	return out
}

// P9.4: what floats, is stretched or hangs on full needles in the beginning of a program is so in the whole, and the other way round.
func TestBeginnings(t *testing.T) {
	for k := range 60 {
		l := walk(6000+k, 150, 2+k%11, 1+k%4)
		whole, _, _ := hazards.Report(l)
		for n := range l {
			part, _, e := hazards.Report(l[:n])
			if e != api.OK || !slices.Equal(early(part, n), early(whole, n)) {
				t.Errorf("%s%d: %q, %d, expected %q", operations.Format(l), n, show(part), e, show(whole))
			}
		}
	}
}

// P9.4: programs without hazards leave nothing on the needles, and what has fallen is fastened.
func TestSafe(t *testing.T) {
	safe, made := 0, 0
	look := func(l []operations.Op) {
		if hazards.Check(l) != api.OK {
			return
		}
		safe++
		f, _ := machines.Make(l)
		if len(f.Held) > 0 {
			t.Errorf("%v are held behind %s", f.Held, operations.Format(l))
		}
		for _, name := range f.Fallen {
			made++
			own := f.Yarns[name.Yarn-1]
			if name.N != len(own)-1 || len(own[name.N].Through) == 0 {
				t.Errorf("%v is not fastened behind %s", name, operations.Format(l))
			}
		}
	}
	for _, b := range small() {
		b.all(t, look)
	}
	begun{"in 1 left; in 2 left", "knit right f1 1; knit right f2 1; knit left f1 1; knit left f2 1; knit right f2 2; xfer f1; xfer b1; rack 0; rack 1; drop f1; drop f2", 6}.all(t, look)
	if safe < 1000 || made < 100 {
		t.Errorf("only %d programs, %d loops", safe, made)
	}
}

// P9.1: hazards come in order, each once.
func TestSorted(t *testing.T) {
	for k := range 40 {
		l, _, _ := hazards.Report(walk(7000+k, 200, 3+k%9, 1+k%6))
		for i := 1; i < len(l); i++ {
			if key(l[i-1]) >= key(l[i]) {
				t.Errorf("%s stands before %s", show(l[i-1:i]), show(l[i:i+1]))
			}
		}
	}
}

// key returns a text that orders hazards.
func key(h hazards.Hazard) string {
	return fmt.Sprintf("%04d %d %d %04d", h.Op, h.Kind, h.Id.Yarn, h.Id.N)
}
