package machines

import (
	"slices"

	"gansey/api"
	"gansey/fabrics"
	"gansey/loops"
	"gansey/needles"
	"gansey/operations"
	"gansey/orders"
	"gansey/stacks"
	"gansey/yarns"
)

// machine is a state that operations change. One that an operation has left with an error is of no use any more.
// It may share memory with the state that it was made from, but only such as no operation writes to.
type machine struct {
	rack     int
	beds     stacks.Beds
	carriers []yarns.Yarn
	table    loops.Table
	sums     map[pair]int // of crossings; none is 0
	fallen   []api.Id     // in the order in which they fell
}

// pair is the names of two loops, the lesser one first.
type pair [2]api.Id

// deeds returns what the operations of each kind do.
func deeds() map[operations.Kind]func(*machine, operations.Op) api.Errno {
	return map[operations.Kind]func(*machine, operations.Op) api.Errno{
		operations.In:   (*machine).enter,
		operations.Out:  (*machine).leave,
		operations.Rack: (*machine).moveTo,
		operations.Knit: (*machine).knit,
		operations.Tuck: (*machine).tuck,
		operations.Miss: (*machine).miss,
		operations.Xfer: (*machine).transfer,
		operations.Drop: (*machine).drop,
	}
}

// from returns the machine with a valid state.
func from(s State) *machine {
	m := &machine{
		rack:     s.Rack,
		beds:     s.Beds,
		carriers: slices.Clone(s.Yarns),
		table:    make(loops.Table, len(s.Fabric.Yarns)),
		sums:     make(map[pair]int, len(s.Fabric.Crossings)),
		fallen:   slices.Clone(s.Fabric.Fallen),
	}
	for i, own := range s.Fabric.Yarns {
		m.table[i] = slices.Clone(own)
	}
	for _, c := range s.Fabric.Crossings {
		m.sums[pair{c.A, c.B}] = c.N
	}
	return m
}

// state returns the state of a machine, in memory of its own.
func (m *machine) state() State {
	first := api.Needle{Bed: api.Front, At: 1}
	// To give a needle what it holds changes nothing, but returns short beds in new memory.
	beds, _ := stacks.Set(m.beds, first, stacks.At(m.beds, first))
	carriers := fresh(m.carriers)
	for i, y := range carriers {
		carriers[i].Pending = fresh(y.Pending)
	}
	return State{Rack: m.rack, Beds: beds, Yarns: carriers, Fabric: m.fabric()}
}

// fabric returns the fabric of a machine, in memory of its own.
func (m *machine) fabric() fabrics.Fabric {
	f := fabrics.Fabric{
		Yarns:     make(loops.Table, len(m.table)),
		Crossings: crossings(m.sums),
		Held:      held(m.beds, m.rack),
		Fallen:    fresh(m.fallen),
	}
	for i, own := range m.table {
		f.Yarns[i] = fresh(own)
		for n, l := range own {
			f.Yarns[i][n].Through, f.Yarns[i][n].Past = fresh(l.Through), fresh(l.Past)
		}
	}
	slices.SortFunc(f.Fallen, fabrics.Compare)
	return f
}

func (m *machine) enter(o operations.Op) (e api.Errno) {
	m.carriers[o.Yarn-1], e = yarns.Enter(m.carriers[o.Yarn-1], o.Dir)
	return e
}

func (m *machine) leave(o operations.Op) (e api.Errno) {
	m.carriers[o.Yarn-1], e = yarns.Leave(m.carriers[o.Yarn-1])
	return e
}

// moveTo moves the back bed to a rack, step by step.
func (m *machine) moveTo(o operations.Op) api.Errno {
	for m.rack < o.Rack {
		if e := m.move(api.Right); e != api.OK {
			return e
		}
		m.rack++
	}
	for m.rack > o.Rack {
		if e := m.move(api.Left); e != api.OK {
			return e
		}
		m.rack--
	}
	return api.OK
}

// move does what one step of the rack does to carriers and loops.
func (m *machine) move(d api.Dir) api.Errno {
	for i, y := range m.carriers {
		if !y.In {
			continue
		}
		met, e := orders.Meets(m.beds, m.rack, d, y.Place)
		if e != api.OK {
			return e
		}
		if m.carriers[i], e = yarns.Go(y, y.Place, met); e != api.OK {
			return e
		}
	}
	l, e := orders.Step(m.beds, m.rack, d)
	for _, c := range l {
		if e := m.cross(c); e != api.OK {
			return e
		}
	}
	return e
}

// cross adds a crossing to the sum of its loops. (fabrics.Cross would look through the whole fabric each time.)
func (m *machine) cross(c orders.Cross) api.Errno {
	key := pair{c.A, c.B}
	if fabrics.Compare(c.A, c.B) > 0 {
		key = pair{c.B, c.A}
	}
	sum := m.sums[key] + c.Sign
	if sum < -fabrics.MaxCross || sum > fabrics.MaxCross {
		return api.ErrLimit
	}
	if sum == 0 {
		delete(m.sums, key)
	} else {
		m.sums[key] = sum
	}
	return api.OK
}

func (m *machine) knit(o operations.Op) api.Errno {
	if e := m.carry(o, m.spot(o)); e != api.OK {
		return e
	}
	id, e := m.loop(o, stacks.At(m.beds, o.Needle))
	if e != api.OK {
		return e
	}
	return m.hold(o.Needle, []api.Id{id})
}

func (m *machine) tuck(o operations.Op) api.Errno {
	if e := m.carry(o, m.spot(o)); e != api.OK {
		return e
	}
	there := stacks.At(m.beds, o.Needle)
	// stacks.Set would find this, too, but only behind the limit of the loops.
	if len(there) == api.MaxStack {
		return api.ErrFull
	}
	id, e := m.loop(o, nil)
	if e != api.OK {
		return e
	}
	return m.hold(o.Needle, append(there, id))
}

func (m *machine) miss(o operations.Op) api.Errno { return m.carry(o, m.behind(o)) }

func (m *machine) transfer(o operations.Op) api.Errno {
	if len(stacks.At(m.beds, o.Needle)) == 0 {
		return api.ErrEmpty
	}
	to, e := needles.Opposite(o.Needle, m.rack)
	if e != api.OK {
		return e
	}
	between := (needles.Spot(o.Needle, m.rack) + needles.Spot(to, m.rack)) / 2
	for _, y := range m.carriers {
		if y.In && y.Place == between {
			return api.ErrYarn
		}
	}
	m.beds, e = stacks.Join(m.beds, o.Needle, to)
	return e
}

func (m *machine) drop(o operations.Op) api.Errno {
	l := stacks.At(m.beds, o.Needle)
	if len(l) == 0 {
		return api.ErrEmpty
	}
	m.fallen = append(m.fallen, l...)
	return m.hold(o.Needle, nil)
}

// spot returns the spot of the needle of an operation.
func (m *machine) spot(o operations.Op) int { return needles.Spot(o.Needle, m.rack) }

// behind returns the place behind the needle of an operation, in its direction.
func (m *machine) behind(o operations.Op) int {
	if o.Dir == api.Right {
		return m.spot(o) + 1
	}
	return m.spot(o) - 1
}

// carry moves the carrier of an operation behind its needle; it passes what hangs before the spot or place to.
func (m *machine) carry(o operations.Op, to int) api.Errno {
	y := m.carriers[o.Yarn-1]
	if !y.In || (y.Place < m.spot(o)) != (o.Dir == api.Right) {
		return api.ErrYarn
	}
	l, e := orders.List(m.beds, m.rack)
	if e != api.OK {
		return e
	}
	m.carriers[o.Yarn-1], e = yarns.Go(y, m.behind(o), orders.Between(l, y.Place, to))
	return e
}

// loop makes the loop of an operation, and returns its name.
func (m *machine) loop(o operations.Op, through []api.Id) (api.Id, api.Errno) {
	y, made, e := yarns.Make(m.carriers[o.Yarn-1])
	if e != api.OK {
		return api.Id{}, e
	}
	l := loops.Loop{Bed: o.Needle.Bed, New: made.New, Through: through, Past: made.Past}
	if e := m.add(o.Yarn, l); e != api.OK {
		return api.Id{}, e
	}
	m.carriers[o.Yarn-1] = y
	return api.Id{Yarn: o.Yarn, N: made.N}, api.OK
}

// add puts a loop through loops that are held into the table.
func (m *machine) add(yarn uint8, l loops.Loop) (e api.Errno) {
	if m.fits(yarn, l) {
		m.table[yarn-1] = append(m.table[yarn-1], l)
		return api.OK
	}
	m.table, e = loops.Add(m.table, yarn, l)
	return e
}

// fits reports whether the table is certainly valid with a loop through loops that are held.
// loops.Add, which looks through the whole table, must be asked only about others: those beyond the limit,
// and those of carriers that were not led from the start, which may have passed loops that there are not.
func (m *machine) fits(yarn uint8, l loops.Loop) bool {
	if loops.Count(m.table) == api.MaxLoops || len(m.table[yarn-1]) == 0 && !l.New {
		return false
	}
	for _, p := range l.Past {
		if p.Id.N >= len(m.table[p.Id.Yarn-1]) {
			return false
		}
	}
	return true
}

// hold gives a needle other loops.
func (m *machine) hold(n api.Needle, l []api.Id) (e api.Errno) {
	m.beds, e = stacks.Set(m.beds, n, l)
	return e
}

// crossings returns sums in the order of the names.
func crossings(sums map[pair]int) []fabrics.Crossing {
	l := make([]fabrics.Crossing, 0, len(sums))
	for key, n := range sums {
		l = append(l, fabrics.Crossing{A: key[0], B: key[1], N: n})
	}
	slices.SortFunc(l, func(c, d fabrics.Crossing) int {
		if c.A != d.A {
			return fabrics.Compare(c.A, d.A)
		}
		return fabrics.Compare(c.B, d.B)
	})
	return l
}

// fresh returns a copy whose capacity is its length; slices.Clone may leave more room.
func fresh[T any](l []T) []T { return slices.Clip(slices.Clone(l)) }
