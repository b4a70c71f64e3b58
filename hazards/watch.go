package hazards

import (
	"gansey/api"
	"gansey/fabrics"
	"gansey/needles"
	"gansey/operations"
	"gansey/orders"
	"gansey/stacks"
)

// watch follows a program that runs, and finds hazards.
// It moves loops by itself, since machines.Step would check and copy the whole fabric at each operation.
type watch struct {
	fabric fabrics.Fabric  // what the program makes
	undone map[api.Id]bool // which of its loops come undone
	rack   int
	beds   stacks.Beds
	last   [api.MaxYarn]made // of each yarn
	danger danger            // behind the operation before
	found  []Hazard
}

// made is how many loops of a yarn there are, and the position at which the last one was made.
type made struct{ count, position int }

// danger is what is dangerous about the loops that are held.
type danger struct {
	stretched map[api.Id]bool       // the second ones of loops that are too far apart
	hooked    map[api.Needle]api.Id // the last loops of needles that hold too many
}

// watchOf returns the watch of a program that makes a fabric, before its first operation.
func watchOf(f fabrics.Fabric) *watch {
	w := &watch{fabric: f, undone: map[api.Id]bool{}}
	for _, id := range fabrics.Undone(f) {
		w.undone[id] = true
	}
	return w
}

// follow does the operation i, and finds its hazards.
func (w *watch) follow(i int, o operations.Op) {
	switch o.Kind {
	case operations.Rack:
		w.rack = o.Rack
	case operations.Knit:
		w.hold(o.Needle, []api.Id{w.loop(i, o)})
	case operations.Tuck:
		w.hold(o.Needle, append(stacks.At(w.beds, o.Needle), w.loop(i, o)))
	case operations.Xfer:
		to, _ := needles.Opposite(o.Needle, w.rack)
		w.beds, _ = stacks.Join(w.beds, o.Needle, to)
	case operations.Drop:
		w.fall(i, stacks.At(w.beds, o.Needle))
		w.hold(o.Needle, nil)
	default:
		return
	}
	w.notice(i)
}

// add notes a hazard.
func (w *watch) add(i int, k Kind, id api.Id) {
	w.found = append(w.found, Hazard{Op: i, Kind: k, Id: id})
}

// hold gives a needle other loops.
func (w *watch) hold(n api.Needle, l []api.Id) { w.beds, _ = stacks.Set(w.beds, n, l) }

// loop returns the name of the loop that an operation makes, and finds whether its yarn floats.
func (w *watch) loop(i int, o operations.Op) api.Id {
	y := &w.last[o.Yarn-1]
	id := api.Id{Yarn: o.Yarn, N: y.count}
	here := position(o.Needle, w.rack)
	if !w.isNew(id) && apart(here, y.position) > MaxFloat+1 {
		w.add(i, Float, id)
	}
	*y = made{count: y.count + 1, position: here}
	return id
}

// fall finds which of the loops that fall come undone.
func (w *watch) fall(i int, l []api.Id) {
	for _, id := range l {
		if w.undone[id] {
			w.add(i, Undone, id)
		}
	}
}

// notice finds what is dangerous behind an operation, and was not before it.
func (w *watch) notice(i int) {
	before, behind := w.danger, w.look()
	for id := range behind.stretched {
		if !before.stretched[id] {
			w.add(i, Stretch, id)
		}
	}
	for n, id := range behind.hooked {
		if _, was := before.hooked[n]; !was {
			w.add(i, Hook, id)
		}
	}
	w.danger = behind
}

// look returns what is dangerous now.
func (w *watch) look() danger {
	held, _ := orders.List(w.beds, w.rack)
	d := danger{stretched: map[api.Id]bool{}, hooked: map[api.Needle]api.Id{}}
	positions := make(map[api.Id]int, len(held))
	counts := map[api.Needle]int{}
	for _, h := range held {
		positions[h.Id] = position(h.Needle, w.rack)
		counts[h.Needle]++
		if counts[h.Needle] > MaxHook {
			d.hooked[h.Needle] = h.Id
		}
	}
	for id, here := range positions {
		there, both := positions[api.Id{Yarn: id.Yarn, N: id.N - 1}]
		if both && !w.isNew(id) && apart(here, there) > MaxStretch {
			d.stretched[id] = true
		}
	}
	return d
}

// isNew reports whether a loop of the fabric is New; then nothing leads to it from the loop before.
func (w *watch) isNew(id api.Id) bool { return w.fabric.Yarns[id.Yarn-1][id.N].New }

// position returns where a needle stands, in needles of the front bed.
func position(n api.Needle, rack int) int {
	if n.Bed == api.Back {
		return n.At + rack
	}
	return n.At
}

// apart returns by how much two positions differ.
func apart(a, b int) int { return max(a-b, b-a) }
