// Package yarns is layer 2: see shared/doc/02-yarns.md.
package yarns

import (
	"slices"

	"gansey/api"
	"gansey/needles"
)

// MaxPending is the greatest number of passes that a yarn has pending.
const MaxPending = 4096

// Pass is that a yarn goes past a loop.
type Pass struct {
	Id    api.Id
	Front bool    // the yarn lies in front of the loop
	Dir   api.Dir // in which direction the yarn goes
}

// Yarn is a carrier, and what its yarn has passed since its last loop.
type Yarn struct {
	In      bool
	Place   int  // an odd spot; 0 if it is out
	Count   int  // of its loops
	New     bool // it came in behind its last loop
	Pending []Pass
}

// Made is what a yarn tells of a new loop.
type Made struct {
	N    int
	New  bool
	Past []Pass
}

// Check returns why a yarn is not valid, or OK. (P2.1)
func Check(y Yarn) api.Errno {
	if y.Count < 0 || y.Count > api.MaxLoops {
		return api.ErrArg
	}
	if y.In && !inValid(y) || !y.In && !outValid(y) {
		return api.ErrArg
	}
	return api.OK
}

// Named reports whether a name is valid. (P2.1)
func Named(id api.Id) bool {
	return 1 <= id.Yarn && id.Yarn <= api.MaxYarn && 0 <= id.N && id.N < api.MaxLoops
}

// Reduce takes passes away that cancel. (P2.2)
func Reduce(l []Pass) []Pass {
	stack := make([]Pass, 0, len(l))
	for _, p := range l {
		last := len(stack) - 1
		if last >= 0 && cancel(stack[last], p) {
			// The third index keeps the room of the whole list, so that no pass needs new memory.
			stack = stack[:last:len(l)]
			continue
		}
		stack = append(stack, p)
	}
	return fresh(stack)
}

// Inverse returns the passes of the way back. (P2.2)
func Inverse(l []Pass) []Pass {
	back := fresh(l)
	slices.Reverse(back)
	for i := range back {
		back[i] = turned(back[i])
	}
	return back
}

// Enter lets a carrier come in at an end. (P2.3)
func Enter(y Yarn, side api.Dir) (Yarn, api.Errno) {
	if e := Check(y); e != api.OK {
		return Yarn{}, e
	}
	if !dirValid(side) {
		return Yarn{}, api.ErrArg
	}
	if y.In {
		return Yarn{}, api.ErrYarn
	}
	place := needles.LeftEnd
	if side == api.Right {
		place = needles.RightEnd
	}
	return Yarn{In: true, Place: place, Count: y.Count, New: true}, api.OK
}

// Leave lets a carrier go out. (P2.3)
func Leave(y Yarn) (Yarn, api.Errno) {
	if e := Check(y); e != api.OK {
		return Yarn{}, e
	}
	if !y.In {
		return Yarn{}, api.ErrYarn
	}
	return Yarn{Count: y.Count}, api.OK
}

// Go moves a carrier to a place, past loops. (P2.4)
func Go(y Yarn, place int, passed []Pass) (Yarn, api.Errno) {
	if e := Check(y); e != api.OK {
		return Yarn{}, e
	}
	if !placeValid(place) || !allValid(passed) {
		return Yarn{}, api.ErrArg
	}
	if !y.In {
		return Yarn{}, api.ErrYarn
	}
	pending := Reduce(slices.Concat(y.Pending, passed))
	if len(pending) > MaxPending {
		return Yarn{}, api.ErrLimit
	}
	return Yarn{In: true, Place: place, Count: y.Count, New: y.New, Pending: pending}, api.OK
}

// Make makes a loop. (P2.5)
func Make(y Yarn) (Yarn, Made, api.Errno) {
	if e := Check(y); e != api.OK {
		return Yarn{}, Made{}, e
	}
	if !y.In {
		return Yarn{}, Made{}, api.ErrYarn
	}
	if y.Count == api.MaxLoops {
		return Yarn{}, Made{}, api.ErrLimit
	}
	made := Made{N: y.Count, New: y.New, Past: fresh(y.Pending)}
	return Yarn{In: true, Place: y.Place, Count: y.Count + 1}, made, api.OK
}

// inValid reports whether what a yarn whose carrier is in has besides its Count is valid.
func inValid(y Yarn) bool {
	return placeValid(y.Place) && len(y.Pending) <= MaxPending && allValid(y.Pending) && reduced(y.Pending)
}

// outValid reports whether what a yarn whose carrier is out has besides its Count is valid.
func outValid(y Yarn) bool { return y.Place == 0 && !y.New && len(y.Pending) == 0 }

func placeValid(place int) bool {
	return needles.LeftEnd <= place && place <= needles.RightEnd && place%2 != 0
}

func dirValid(d api.Dir) bool { return d == api.Left || d == api.Right }

func allValid(l []Pass) bool {
	for _, p := range l {
		if !Named(p.Id) || !dirValid(p.Dir) {
			return false
		}
	}
	return true
}

func reduced(l []Pass) bool {
	for i := 1; i < len(l); i++ {
		if cancel(l[i-1], l[i]) {
			return false
		}
	}
	return true
}

// cancel reports whether two passes cancel. A pass that goes neither left nor right is turned to the right,
// but is itself the turned one of none; so each must be the other one turned.
func cancel(p, q Pass) bool { return turned(p) == q && turned(q) == p }

// turned returns a pass in the other direction.
func turned(p Pass) Pass {
	if p.Dir == api.Right {
		p.Dir = api.Left
	} else {
		p.Dir = api.Right
	}
	return p
}

// fresh returns a copy whose capacity is its length; slices.Clone may leave more room.
func fresh(l []Pass) []Pass {
	if len(l) == 0 {
		return nil
	}
	out := make([]Pass, len(l))
	copy(out, l)
	return out
}
