package machines_test

import (
	"maps"
	"slices"

	"gansey/api"
	"gansey/fabrics"
	"gansey/loops"
	"gansey/machines"
	"gansey/operations"
	"gansey/stacks"
	"gansey/yarns"
)

// model is a second way of doing operations: it knows where each loop hangs, and looks which loops and carriers
// change sides when something moves. It calls no function of a layer.
type model struct {
	rack     int
	stacks   map[api.Needle][]api.Id
	carriers [maxYarn]yarns.Yarn
	made     [maxYarn][]loops.Loop
	sums     map[[2]api.Id]int
	fallen   []api.Id
}

// hung is a loop, and where it hangs.
type hung struct {
	id     api.Id
	needle api.Needle
	spot   int
}

// modelOf returns the model of a valid state.
func modelOf(s machines.State) *model {
	m := &model{rack: s.Rack, stacks: map[api.Needle][]api.Id{}, sums: map[[2]api.Id]int{}, fallen: slices.Clone(s.Fabric.Fallen)}
	for bed, l := range [][][]api.Id{s.Beds.Front, s.Beds.Back} {
		for i, stack := range l {
			m.stacks[api.Needle{Bed: api.Bed(bed), At: i + 1}] = slices.Clone(stack)
		}
	}
	copy(m.carriers[:], s.Yarns)
	for y := range m.made {
		m.made[y] = slices.Clone(s.Fabric.Yarns[y])
	}
	for _, c := range s.Fabric.Crossings {
		m.sums[[2]api.Id{c.A, c.B}] = c.N
	}
	return m
}

// state returns the state of a model; its beds are short.
func (m *model) state() machines.State {
	s := machines.State{Rack: m.rack, Yarns: slices.Clone(m.carriers[:])}
	s.Beds = stacks.Beds{Front: m.bed(api.Front), Back: m.bed(api.Back)}
	for _, own := range m.made {
		s.Fabric.Yarns = append(s.Fabric.Yarns, slices.Clone(own))
	}
	for key, n := range m.sums {
		if n != 0 {
			s.Fabric.Crossings = append(s.Fabric.Crossings, fabrics.Crossing{A: key[0], B: key[1], N: n})
		}
	}
	slices.SortFunc(s.Fabric.Crossings, func(c, d fabrics.Crossing) int {
		if c.A != d.A {
			return compare(c.A, d.A)
		}
		return compare(c.B, d.B)
	})
	for _, h := range m.order() {
		s.Fabric.Held = append(s.Fabric.Held, h.id)
	}
	s.Fabric.Fallen = slices.Clone(m.fallen)
	return s
}

func (m *model) bed(bed api.Bed) [][]api.Id {
	var l [][]api.Id
	for at := 1; at <= maxNeedle; at++ {
		if stack := m.stacks[api.Needle{Bed: bed, At: at}]; len(stack) > 0 {
			l = append(l, make([][]api.Id, at-1-len(l))...)
			l = append(l, slices.Clone(stack))
		}
	}
	return l
}

// spotOf returns where a needle stands, whether it is valid or not.
func spotOf(n api.Needle, rack int) int {
	if n.Bed == api.Back {
		return 4 * (n.At + rack)
	}
	return 4*n.At + 2
}

// order returns all loops, from left to right.
func (m *model) order() []hung {
	var l []hung
	for spot := leftEnd; spot <= rightEnd; spot++ {
		for n, stack := range m.stacks {
			if spotOf(n, m.rack) != spot {
				continue
			}
			for _, id := range stack {
				l = append(l, hung{id, n, spot})
			}
		}
	}
	return l
}

// pend puts a pass behind those of a carrier.
func (m *model) pend(y int, p yarns.Pass) {
	l := m.carriers[y].Pending
	if n := len(l); n > 0 && l[n-1].Id == p.Id && l[n-1].Front == p.Front && l[n-1].Dir != p.Dir {
		m.carriers[y].Pending = slices.Clone(l[:n-1])
		return
	}
	m.carriers[y].Pending = append(slices.Clone(l), p)
}

// do does an operation; behind an error the model is as before.
func (m *model) do(o operations.Op) api.Errno {
	old := *m
	old.stacks, old.sums = maps.Clone(m.stacks), maps.Clone(m.sums)
	e := m.change(o)
	if e != api.OK {
		*m = old
	}
	return e
}

func (m *model) change(o operations.Op) api.Errno {
	if o.Kind == operations.Rack && (o.Rack < -maxRack || o.Rack > maxRack) {
		return api.ErrRack
	}
	stack := slices.Clone(m.stacks[o.Needle])
	switch o.Kind {
	case operations.In:
		y := &m.carriers[o.Yarn-1]
		if y.In {
			return api.ErrYarn
		}
		*y = yarns.Yarn{In: true, Place: []int{leftEnd, rightEnd}[o.Dir], Count: y.Count, New: true}
	case operations.Out:
		y := &m.carriers[o.Yarn-1]
		if !y.In {
			return api.ErrYarn
		}
		*y = yarns.Yarn{Count: y.Count}
	case operations.Rack:
		for m.rack != o.Rack {
			if e := m.step(1 - 2*btoi(o.Rack < m.rack)); e != api.OK {
				return e
			}
		}
	case operations.Knit, operations.Tuck, operations.Miss:
		return m.work(o, stack)
	case operations.Xfer:
		return m.transfer(o, stack)
	case operations.Drop:
		if len(stack) == 0 {
			return api.ErrEmpty
		}
		delete(m.stacks, o.Needle)
		m.fallen = append(slices.Clone(m.fallen), stack...)
		slices.SortFunc(m.fallen, compare)
	}
	return api.OK
}

func btoi(b bool) int {
	if b {
		return 1
	}
	return 0
}

// step moves the back bed by a place to the right (1) or to the left (-1).
func (m *model) step(by int) api.Errno {
	was := m.order()
	m.rack += by
	// To a carrier the loops come from where the bed moves to; the foremost one comes first.
	d := api.Left
	toCarrier := slices.Clone(was)
	slices.Reverse(toCarrier)
	if by < 0 {
		d, toCarrier = api.Right, was
	}
	for y := range m.carriers {
		for _, h := range toCarrier {
			c := m.carriers[y]
			if c.In && (h.spot < c.Place) != (spotOf(h.needle, m.rack) < c.Place) {
				m.pend(y, yarns.Pass{Id: h.id, Front: true, Dir: d})
			}
		}
		if len(m.carriers[y].Pending) > maxPending {
			return api.ErrLimit
		}
	}
	for i, left := range was {
		for _, right := range was[i+1:] {
			if left.needle == right.needle || spotOf(left.needle, m.rack) < spotOf(right.needle, m.rack) {
				continue
			}
			// The back bed is behind: its loops go behind to the right, and those of the front bed in front of them if they go to the left.
			key := [2]api.Id{left.id, right.id}
			if compare(left.id, right.id) > 0 {
				key = [2]api.Id{right.id, left.id}
			}
			m.sums[key] -= by
			if m.sums[key] > maxCross || m.sums[key] < -maxCross {
				return api.ErrLimit
			}
		}
	}
	return api.OK
}

// work does a knit, a tuck or a miss.
func (m *model) work(o operations.Op, stack []api.Id) api.Errno {
	y := int(o.Yarn - 1)
	spot := spotOf(o.Needle, m.rack)
	c := m.carriers[y]
	if !c.In || o.Dir == api.Right && c.Place > spot || o.Dir == api.Left && c.Place < spot {
		return api.ErrYarn
	}
	l := m.order()
	if o.Dir == api.Left {
		slices.Reverse(l)
	}
	for _, h := range l {
		onTheWay := c.Place < h.spot && h.spot < spot || spot < h.spot && h.spot < c.Place
		if onTheWay || h.spot == spot && o.Kind == operations.Miss {
			m.pend(y, yarns.Pass{Id: h.id, Front: h.needle.Bed == api.Back, Dir: o.Dir})
		}
	}
	if len(m.carriers[y].Pending) > maxPending {
		return api.ErrLimit
	}
	m.carriers[y].Place = spot - 1 + 2*int(o.Dir)
	if o.Kind == operations.Miss {
		return api.OK
	}
	if o.Kind == operations.Tuck && len(stack) == maxStack {
		return api.ErrFull
	}
	count := 0
	for _, own := range m.made {
		count += len(own)
	}
	if count == maxLoops {
		return api.ErrLimit
	}
	id := api.Id{Yarn: o.Yarn, N: len(m.made[y])}
	made := loops.Loop{Bed: o.Needle.Bed, New: c.New, Past: m.carriers[y].Pending}
	if o.Kind == operations.Knit {
		made.Through, stack = stack, nil
	}
	m.made[y] = append(slices.Clone(m.made[y]), made)
	m.stacks[o.Needle] = append(stack, id)
	m.carriers[y] = yarns.Yarn{In: true, Place: m.carriers[y].Place, Count: id.N + 1}
	return api.OK
}

func (m *model) transfer(o operations.Op, stack []api.Id) api.Errno {
	if len(stack) == 0 {
		return api.ErrEmpty
	}
	to := api.Needle{Bed: api.Back, At: o.Needle.At - m.rack}
	if o.Needle.Bed == api.Back {
		to = api.Needle{Bed: api.Front, At: o.Needle.At + m.rack}
	}
	if to.At < 1 || to.At > maxNeedle {
		return api.ErrRack
	}
	for _, c := range m.carriers {
		spot := spotOf(o.Needle, m.rack)
		if c.In && c.Place > min(spot, spotOf(to, m.rack)) && c.Place < max(spot, spotOf(to, m.rack)) {
			return api.ErrYarn
		}
	}
	there := slices.Clone(m.stacks[to])
	if len(there)+len(stack) > maxStack {
		return api.ErrFull
	}
	delete(m.stacks, o.Needle)
	// The loops of the back needle hang left of those of the front needle.
	if o.Needle.Bed == api.Front {
		m.stacks[to] = append(there, stack...)
	} else {
		m.stacks[to] = append(stack, there...)
	}
	return api.OK
}
