package needles_test

import (
	"math"
	"strconv"
	"testing"

	"gansey/api"
	"gansey/needles"
)

func front(at int) api.Needle { return api.Needle{Bed: api.Front, At: at} }

func back(at int) api.Needle { return api.Needle{Bed: api.Back, At: at} }

var none = api.Needle{}

// extremes are numbers that neither a needle nor a rack can have; some of them become valid ones if they overflow.
var extremes = []int{
	math.MinInt, math.MinInt + 1, math.MinInt / 4, math.MinInt/4 + 1, math.MinInt32, -1 << 16,
	-41, -5, 41, 255, 256, 257, 1 << 16, 1<<32 + 1, math.MaxInt32, math.MaxInt / 4, math.MaxInt/4 + 1,
	1<<62 + 1, math.MaxInt - 1, math.MaxInt,
}

func allNeedles() []api.Needle {
	var l []api.Needle
	for at := 1; at <= 40; at++ {
		l = append(l, front(at), back(at))
	}
	return l
}

func wrongNeedles() []api.Needle {
	l := []api.Needle{front(0), back(0), front(-1), back(-1), front(41), back(41)}
	for _, at := range extremes {
		l = append(l, front(at), back(at))
	}
	for bed := 2; bed <= 255; bed++ {
		l = append(l, api.Needle{Bed: api.Bed(bed), At: 1}, api.Needle{Bed: api.Bed(bed), At: 40}, api.Needle{Bed: api.Bed(bed), At: 0})
	}
	return l
}

func allRacks() []int { return []int{-4, -3, -2, -1, 0, 1, 2, 3, 4} }

func wrongRacks() []int { return append([]int{-6, 6}, extremes...) }

// position is the chapter's definition, for valid needles and racks.
func position(n api.Needle, rack int) int {
	if n.Bed == api.Back {
		return n.At + rack
	}
	return n.At
}

func spot(n api.Needle, rack int) int {
	if n.Bed == api.Front {
		return 4*position(n, rack) + 2
	}
	return 4 * position(n, rack)
}

// P1.1
func TestCheck(t *testing.T) {
	for _, n := range allNeedles() {
		if e := needles.Check(n); e != api.OK {
			t.Errorf("Check(%v) = %d, expected OK", n, e)
		}
	}
	for _, n := range wrongNeedles() {
		if e := needles.Check(n); e != api.ErrArg {
			t.Errorf("Check(%v) = %d, expected ErrArg", n, e)
		}
	}
}

// P1.2: the examples of the chapter, and the ends of the beds.
func TestSpotExamples(t *testing.T) {
	for _, c := range []struct {
		n          api.Needle
		rack, want int
	}{
		{front(1), 0, 6}, {back(1), 0, 4}, {back(40), 0, 160}, {back(1), -4, -12},
		{back(40), 4, 176}, {front(40), 0, 162}, {front(40), 4, 162}, {front(40), -4, 162},
		{back(1), -1, 0}, {back(4), -4, 0}, {back(12), 3, 60}, {front(12), 3, 50},
	} {
		if got := needles.Spot(c.n, c.rack); got != c.want {
			t.Errorf("Spot(%v, %d) = %d, expected %d", c.n, c.rack, got, c.want)
		}
	}
}

// P1.2
func TestSpotOfAllNeedles(t *testing.T) {
	for _, rack := range allRacks() {
		for _, n := range allNeedles() {
			if got, want := needles.Spot(n, rack), spot(n, rack); got != want {
				t.Errorf("Spot(%v, %d) = %d, expected %d", n, rack, got, want)
			}
		}
	}
}

// P1.2, R3
func TestSpotInvalid(t *testing.T) {
	expectNoSpot := func(n api.Needle, rack int) {
		if got := needles.Spot(n, rack); got != 0 {
			t.Errorf("Spot(%v, %d) = %d, expected 0", n, rack, got)
		}
	}
	for _, n := range wrongNeedles() {
		for _, rack := range append(allRacks(), wrongRacks()...) {
			expectNoSpot(n, rack)
		}
	}
	for _, rack := range wrongRacks() {
		for _, n := range allNeedles() {
			expectNoSpot(n, rack)
		}
	}
}

func expectAt(t *testing.T, spot, rack int, want api.Needle, e api.Errno) {
	t.Helper()
	if got, err := needles.At(spot, rack); got != want || err != e {
		t.Errorf("At(%d, %d) = %v, %d, expected %v, %d", spot, rack, got, err, want, e)
	}
}

// P1.2: the examples of the chapter, and spots beside the ends of the beds.
func TestAtExamples(t *testing.T) {
	expectAt(t, 6, 3, front(1), api.OK)
	expectAt(t, 16, 3, back(1), api.OK)
	expectAt(t, 4, 3, none, api.ErrNone)
	expectAt(t, 0, 0, none, api.ErrNone)
	expectAt(t, 0, -1, back(1), api.OK)
	expectAt(t, 2, 0, none, api.ErrNone)
	expectAt(t, 162, 0, front(40), api.OK)
	expectAt(t, 164, 0, none, api.ErrNone)
	expectAt(t, 166, 4, none, api.ErrNone)
	expectAt(t, 176, 4, back(40), api.OK)
	expectAt(t, 176, 3, none, api.ErrNone)
	expectAt(t, -12, -4, back(1), api.OK)
	expectAt(t, -16, -4, none, api.ErrNone)
}

// P1.2
func TestAtOfAllSpots(t *testing.T) {
	for _, rack := range allRacks() {
		at := map[int]api.Needle{}
		for _, n := range allNeedles() {
			at[spot(n, rack)] = n
		}
		for s := -400; s <= 400; s++ {
			if n, ok := at[s]; ok {
				expectAt(t, s, rack, n, api.OK)
			} else {
				expectAt(t, s, rack, none, api.ErrNone)
			}
		}
	}
}

// P1.2, P1, R2, R3: the rack is looked at first.
func TestAtInvalid(t *testing.T) {
	far := []int{math.MinInt, math.MinInt + 6, math.MinInt32, -1 << 16, 1<<32 + 6, 1<<62 + 6, math.MaxInt - 1, math.MaxInt}
	for _, rack := range wrongRacks() {
		for s := -20; s <= 200; s++ {
			expectAt(t, s, rack, none, api.ErrRack)
		}
		for _, s := range far {
			expectAt(t, s, rack, none, api.ErrRack)
		}
	}
	for _, rack := range allRacks() {
		for _, s := range far {
			expectAt(t, s, rack, none, api.ErrNone)
		}
	}
}

func expectOpposite(t *testing.T, n api.Needle, rack int, want api.Needle, e api.Errno) {
	t.Helper()
	if got, err := needles.Opposite(n, rack); got != want || err != e {
		t.Errorf("Opposite(%v, %d) = %v, %d, expected %v, %d", n, rack, got, err, want, e)
	}
}

// P1.3: the examples of the chapter, and the ends of the beds.
func TestOppositeExamples(t *testing.T) {
	expectOpposite(t, front(4), 3, back(1), api.OK)
	expectOpposite(t, back(40), 0, front(40), api.OK)
	expectOpposite(t, back(40), 1, none, api.ErrRack)
	expectOpposite(t, back(36), 4, front(40), api.OK)
	expectOpposite(t, front(1), 0, back(1), api.OK)
	expectOpposite(t, front(1), 1, none, api.ErrRack)
	expectOpposite(t, front(1), -4, back(5), api.OK)
	expectOpposite(t, front(40), -1, none, api.ErrRack)
	expectOpposite(t, back(1), -1, none, api.ErrRack)
}

// P1.3: the needle of the other bed whose position is equal.
func TestOppositeOfAllNeedles(t *testing.T) {
	for _, rack := range allRacks() {
		for _, n := range allNeedles() {
			want, e := none, api.ErrRack
			for _, m := range allNeedles() {
				if m.Bed != n.Bed && position(m, rack) == position(n, rack) {
					want, e = m, api.OK
				}
			}
			expectOpposite(t, n, rack, want, e)
		}
	}
}

// P1.3, P1, R2, R3: the needle is looked at first.
func TestOppositeInvalid(t *testing.T) {
	for _, n := range wrongNeedles() {
		for _, rack := range append(allRacks(), wrongRacks()...) {
			expectOpposite(t, n, rack, none, api.ErrArg)
		}
	}
	for _, rack := range wrongRacks() {
		for _, n := range allNeedles() {
			expectOpposite(t, n, rack, none, api.ErrRack)
		}
	}
}

func expectParse(t *testing.T, s string, want api.Needle, e api.Errno) {
	t.Helper()
	if got, err := needles.Parse(s); got != want || err != e {
		t.Errorf("Parse(%q) = %v, %d, expected %v, %d", s, got, err, want, e)
	}
}

// P1.4: the examples of the chapter.
func TestTextExamples(t *testing.T) {
	if s := needles.Text(front(12)); s != "f12" {
		t.Errorf("Text of f12 = %q", s)
	}
	expectParse(t, "b3", back(3), api.OK)
	expectParse(t, "f0", none, api.ErrForm)
	expectParse(t, "f07", none, api.ErrForm)
}

// P1.4
func TestTextOfAllNeedles(t *testing.T) {
	for at := 1; at <= 40; at++ {
		for letter, n := range map[string]api.Needle{"f": front(at), "b": back(at)} {
			s := letter + strconv.Itoa(at)
			if got := needles.Text(n); got != s {
				t.Errorf("Text(%v) = %q, expected %q", n, got, s)
			}
			expectParse(t, s, n, api.OK)
		}
	}
}

// P1.4
func TestTextInvalid(t *testing.T) {
	for _, n := range wrongNeedles() {
		if got := needles.Text(n); got != "" {
			t.Errorf("Text(%v) = %q, expected none", n, got)
		}
	}
}

// P1.4, P1, R3: texts that name no needle, among them numbers that overflow.
func TestParseInvalid(t *testing.T) {
	for _, s := range []string{
		"", "f", "b", "ff", "fb", "bf1", "f1b1", "1", "12", "1f", "F1", "B1", "g1", "a3", "l1", "r1", "x40",
		"f0", "b0", "f00", "f01", "b01", "b010", "f007", "f040", "f41", "b41", "f99", "f100", "b400", "b256", "b257", "f1000000",
		"f+1", "b+40", "f-1", "b-0", "f+0", "f1.0", "f1e1", "f0x1", "b0b1", "f0o1", "f1_0", "f1,",
		" f1", "f1 ", "f 1", "f1\n", "\tf1", "f1\x00", "\x00f1", "f\x001", "\x00", "f1f", "f1,f2",
		"f18446744073709551617", "b18446744073709551656", "f4294967297", "b9223372036854775807", "f-9223372036854775808", "f9223372036854775808",
		"\u00e91", "\uff461", "f\uff11", "f\u0661", "\xff1", "f\xff", "\x001", "\x011",
	} {
		expectParse(t, s, none, api.ErrForm)
	}
}

// P1.4: of all short texts, just those of the needles are parsed.
func TestParseOfShortTexts(t *testing.T) {
	named := map[string]api.Needle{}
	for _, n := range allNeedles() {
		letter := "f"
		if n.Bed == api.Back {
			letter = "b"
		}
		named[letter+strconv.Itoa(n.At)] = n
	}
	const used = "fbFa0123456789+-_ "
	for i := range 256 {
		for j := range 256 {
			s := string([]byte{byte(i), byte(j)})
			expectNamed(t, named, s)
		}
		for _, j := range used {
			for _, k := range used {
				s := string([]byte{byte(i), byte(j), byte(k)})
				expectNamed(t, named, s)
			}
		}
	}
}

func expectNamed(t *testing.T, named map[string]api.Needle, s string) {
	t.Helper()
	if n, ok := named[s]; ok {
		expectParse(t, s, n, api.OK)
	} else {
		expectParse(t, s, none, api.ErrForm)
	}
}

// P1.5: spots differ, and At gives back the needle.
func TestSpotsDiffer(t *testing.T) {
	for _, rack := range allRacks() {
		seen := map[int]api.Needle{}
		for _, n := range allNeedles() {
			s := needles.Spot(n, rack)
			if m, ok := seen[s]; ok {
				t.Errorf("rack %d: %v and %v both have spot %d", rack, m, n, s)
			}
			seen[s] = n
			expectAt(t, s, rack, n, api.OK)
		}
	}
}

// P1.5: of two opposite needles each is the other's, and the back one is 2 to the left.
func TestOppositeIsItsOwnInverse(t *testing.T) {
	for _, rack := range allRacks() {
		pairs := 0
		for _, n := range allNeedles() {
			o, e := needles.Opposite(n, rack)
			if e != api.OK {
				continue
			}
			pairs++
			expectOpposite(t, o, rack, n, api.OK)
			f, b := n, o
			if n.Bed == api.Back {
				f, b = o, n
			}
			if f.Bed != api.Front || b.Bed != api.Back {
				t.Errorf("rack %d: %v and %v are not of two beds", rack, n, o)
			}
			if d := needles.Spot(f, rack) - needles.Spot(b, rack); d != 2 {
				t.Errorf("rack %d: %v is %d left of %v, expected 2", rack, b, d, f)
			}
		}
		if want := 2 * (40 - max(rack, -rack)); pairs != want {
			t.Errorf("rack %d: %d needles have an opposite one, expected %d", rack, pairs, want)
		}
	}
}

// P1.5: the ends lie outside of all spots, at odd places.
func TestEnds(t *testing.T) {
	if needles.LeftEnd != -13 || needles.RightEnd != 179 {
		t.Errorf("the ends are %d and %d, expected -13 and 179", needles.LeftEnd, needles.RightEnd)
	}
	for _, rack := range allRacks() {
		for _, n := range allNeedles() {
			s := needles.Spot(n, rack)
			left, right := s-needles.LeftEnd, needles.RightEnd-s
			if left <= 0 || right <= 0 || left%2 != 1 || right%2 != 1 {
				t.Errorf("rack %d: %v is %d from the left end, and %d from the right end", rack, n, left, right)
			}
		}
	}
}
