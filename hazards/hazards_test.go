package hazards_test

import (
	"fmt"
	"math"
	"slices"
	"strings"
	"testing"

	"gansey/api"
	"gansey/hazards"
	"gansey/machines"
	"gansey/operations"
)

const (
	maxNeedle, maxRack, maxYarn = 40, 4, 6
	maxOps, maxLoops            = 4096, 2048
)

// kindWords are the kinds, and their words.
var kindWords = map[hazards.Kind]string{1: "float", 2: "stretch", 3: "hook", 4: "undone", 5: "rest"}

// extremes are numbers that are no operation, needle or loop; some become valid ones if they are cut off.
var extremes = []int{
	math.MinInt, math.MinInt + 1, math.MinInt32, -1 << 16, -256, -255, -41,
	1 << 16, 1<<16 + 1, math.MaxInt32, 1 << 32, 1<<32 + 1, 1 << 62, math.MaxInt - 1, math.MaxInt,
}

// id returns the name y.n of the chapter's examples.
func id(y uint8, n int) api.Id { return api.Id{Yarn: y, N: n} }

func front(at int) api.Needle { return api.Needle{Bed: api.Front, At: at} }

func back(at int) api.Needle { return api.Needle{Bed: api.Back, At: at} }

// program reads operations, which are separated by semicolons.
func program(t *testing.T, text string) []operations.Op {
	t.Helper()
	l, line, e := operations.Program(strings.ReplaceAll(text, ";", "\n"))
	if e != api.OK {
		t.Fatalf("%q: operation %d: %d", text, line, e)
	}
	return l
}

// show formats hazards, separated by commas.
func show(l []hazards.Hazard) string {
	var texts []string
	for _, h := range l {
		texts = append(texts, fmt.Sprintf("%d %s %d.%d", h.Op, kindWords[h.Kind], h.Id.Yarn, h.Id.N))
	}
	return strings.Join(texts, ", ")
}

// expectReport checks what Report and Check return for a program that runs.
func expectReport(t *testing.T, what string, l []operations.Op, want string) {
	t.Helper()
	got, n, e := hazards.Report(l)
	if show(got) != want || n != len(l) || e != api.OK {
		t.Errorf("%s: Report = %q, %d, %d, expected %q, %d", what, show(got), n, e, want, len(l))
	}
	if len(got) != cap(got) {
		t.Errorf("%s: length %d, capacity %d", what, len(got), cap(got))
	}
	safety := api.ErrUnsafe
	if want == "" {
		safety = api.OK
	}
	if e := hazards.Check(l); e != safety {
		t.Errorf("%s: Check = %d, expected %d", what, e, safety)
	}
}

// expectError checks what Report and Check return for a program that does not run.
func expectError(t *testing.T, what string, l []operations.Op, index int, want api.Errno) {
	t.Helper()
	got, n, e := hazards.Report(l)
	if len(got) != 0 || n != index || e != want {
		t.Errorf("%s: Report = %q, %d, %d, expected nothing, %d, %d", what, show(got), n, e, index, want)
	}
	if e := hazards.Check(l); e != want {
		t.Errorf("%s: Check = %d, expected %d", what, e, want)
	}
	if _, n, e := machines.Run(machines.Start(), l); n != index || e != want {
		t.Errorf("%s: Run = %d, %d, expected %d, %d", what, n, e, index, want)
	}
}

// reported is a program, and its hazards.
type reported struct{ text, want string }

func expectReports(t *testing.T, l []reported) {
	t.Helper()
	for _, c := range l {
		expectReport(t, c.text, program(t, c.text), c.want)
	}
}

// The constants that the chapter lists.
func TestConstants(t *testing.T) {
	got := []int{
		int(hazards.Float), int(hazards.Stretch), int(hazards.Hook), int(hazards.Undone), int(hazards.Rest),
		hazards.MaxFloat, hazards.MaxStretch, hazards.MaxHook,
	}
	if want := []int{1, 2, 3, 4, 5, 5, 6, 3}; !slices.Equal(got, want) {
		t.Errorf("%v, expected %v", got, want)
	}
}

// The examples of the chapter.
func TestExamples(t *testing.T) {
	expectReports(t, []reported{
		{"in 1 left; knit right f1 1; knit right f8 1; knit right f9 1", "2 float 1.1, 2 stretch 1.1, 4 rest 1.0, 4 rest 1.1, 4 rest 1.2"},
		{"in 1 left; knit right f1 1; knit right f7 1; knit right f9 1", "4 rest 1.0, 4 rest 1.1, 4 rest 1.2"},
		{"in 1 left; knit right f1 1; drop f1", "2 undone 1.0"},
		{"in 1 left; knit right f1 1; knit left f1 1; drop f1; out 1", ""},
	})
}

// P9.1: programs that make nothing, or bind off all that they make.
func TestNothing(t *testing.T) {
	expectReports(t, []reported{
		{"", ""},
		{"in 1 left; in 2 right; rack 4; miss right b40 1; rack -4; miss left f1 2; out 1", ""},
		{"in 1 left; knit right f1 1; knit right f2 1; knit left f2 1; knit left f1 1; knit right f1 1; xfer f1; rack 1; xfer b1; rack 0; knit right f2 1; drop f2; out 1", ""},
		{"in 3 left; knit right b1 3; out 3; in 4 right; knit left b1 4; in 5 left; knit right b1 5; drop b1", ""},
		{"in 1 right; knit left f1 1; knit right f1 1; in 2 left; knit right b1 2; knit left b1 2; xfer f1; drop b1", ""},
	})
	expectReport(t, "nil", nil, "")
	expectReport(t, "no operations", []operations.Op{}, "")
}

// P9.1: how far a yarn goes between two loops counts from where they were made.
func TestFloat(t *testing.T) {
	expectReports(t, []reported{
		{"in 1 right; knit left f40 1; knit left f34 1", "3 rest 1.0, 3 rest 1.1"},
		{"in 1 right; knit left f40 1; knit left f33 1", "2 float 1.1, 2 stretch 1.1, 3 rest 1.0, 3 rest 1.1"},
		{"in 1 left; knit right f1 1; miss right f4 1; tuck right f8 1", "3 float 1.1, 3 stretch 1.1, 4 rest 1.0, 4 rest 1.1"},
		{"in 1 left; tuck right b1 1; tuck right b40 1", "2 float 1.1, 2 stretch 1.1, 3 rest 1.0, 3 rest 1.1"},
		// The rack counts for needles of the back bed.
		{"in 1 left; knit right f1 1; knit right b7 1", "3 rest 1.0, 3 rest 1.1"},
		{"in 1 left; knit right f1 1; knit right b8 1", "2 float 1.1, 2 stretch 1.1, 3 rest 1.0, 3 rest 1.1"},
		{"rack -1; in 1 left; knit right f1 1; knit right b8 1", "4 rest 1.0, 4 rest 1.1"},
		{"rack 1; in 1 left; knit right f1 1; knit right b7 1", "3 float 1.1, 3 stretch 1.1, 4 rest 1.0, 4 rest 1.1"},
		{"rack 4; in 1 left; knit right b1 1; knit right b7 1; knit right f17 1", "5 rest 1.0, 5 rest 1.1, 5 rest 1.2"},
		{"rack -4; in 1 left; knit right b1 1; knit right f3 1; knit left b1 1", "5 rest 1.1, 5 rest 1.2"},
		{"rack -4; in 1 left; knit right b1 1; knit right f4 1; knit left b1 1", "3 float 1.1, 3 stretch 1.1, 4 float 1.2, 4 stretch 1.2, 5 rest 1.1, 5 rest 1.2"},
		// A loop that has been moved since then, the one way or the other.
		{"rack 4; in 1 left; knit right b1 1; rack 0; knit right f11 1", "4 stretch 1.1, 5 rest 1.0, 5 rest 1.1"},
		{"in 1 left; knit right b1 1; rack 4; knit right f8 1", "3 float 1.1, 4 rest 1.0, 4 rest 1.1"},
		{"in 1 left; knit right f1 1; xfer f1; rack 1; xfer b1; knit right f8 1", "5 float 1.1, 6 rest 1.0, 6 rest 1.1"},
		// One that is not held any more, and one that another yarn has pulled through.
		{"in 1 left; knit right f1 1; drop f1; knit right f8 1", "2 undone 1.0, 3 float 1.1, 4 rest 1.1"},
		{"in 1 left; knit right f1 1; drop f1; knit right f7 1", "2 undone 1.0, 4 rest 1.1"},
		{"in 1 left; in 2 left; knit right f1 1; knit right f1 2; knit right f8 1", "4 float 1.1, 5 rest 1.1, 5 rest 2.0"},
		// The loop before is that of the same yarn, and the last one.
		{"in 1 left; in 2 right; knit right f1 1; knit left f40 2; knit right f7 1; knit left f34 2; knit right f13 1", "7 rest 1.0, 7 rest 1.1, 7 rest 1.2, 7 rest 2.0, 7 rest 2.1"},
		{"in 1 left; knit right f1 1; knit right f5 1; knit right f9 1; knit left f1 1", "4 float 1.3, 4 stretch 1.3, 5 rest 1.1, 5 rest 1.2, 5 rest 1.3"},
	})
}

// P9.1: all distances, on all beds, with all racks.
func TestDistances(t *testing.T) {
	for r := -maxRack; r <= maxRack; r++ {
		for from := range 2 * maxNeedle {
			for to := range 2 * maxNeedle {
				beds := [2]func(int) api.Needle{front, back}
				expectDistance(t, r, beds[from%2](from/2+1), beds[to%2](to/2+1))
			}
		}
	}
}

// expectDistance knits two loops, from the left to the right or the other way.
func expectDistance(t *testing.T, rack int, from, to api.Needle) {
	t.Helper()
	a, b := from.At+rack*int(from.Bed), to.At+rack*int(to.Bed)
	d, side := api.Right, api.Left
	// Of two needles at the same position the one of the back bed stands left.
	if b < a || b == a && to.Bed > from.Bed {
		d, side = api.Left, api.Right
	}
	l := []operations.Op{
		{Kind: operations.Rack, Rack: rack},
		{Kind: operations.In, Dir: side, Yarn: 2},
		{Kind: operations.Knit, Dir: d, Needle: from, Yarn: 2},
		{Kind: operations.Knit, Dir: d, Needle: to, Yarn: 2},
	}
	want := "4 rest 2.0, 4 rest 2.1"
	if from == to {
		l[3].Dir = side
		want = "4 rest 2.1"
	}
	if a-b >= 7 || b-a >= 7 {
		want = "3 float 2.1, 3 stretch 2.1, " + want
	}
	got, n, e := hazards.Report(l)
	if show(got) != want || n != 4 || e != api.OK {
		t.Fatalf("rack %d, %v to %v: %q, %d, %d, expected %q", rack, from, to, show(got), n, e, want)
	}
}

// P9.1: nothing leads from the loop before to a New one, but from it to the next one.
func TestNew(t *testing.T) {
	expectReports(t, []reported{
		{"in 1 left; knit right f1 1; out 1; in 1 right; knit left f40 1", "5 rest 1.0, 5 rest 1.1"},
		{"in 1 left; knit right f1 1; out 1; in 1 left; tuck right b40 1; rack 4; rack -4", "7 rest 1.0, 7 rest 1.1"},
		{"in 1 left; knit right f1 1; out 1; in 1 right; knit left f40 1; knit left f33 1", "5 float 1.2, 5 stretch 1.2, 6 rest 1.0, 6 rest 1.1, 6 rest 1.2"},
		{"in 1 left; knit right f1 1; out 1; in 1 right; knit left f40 1; knit left f34 1", "6 rest 1.0, 6 rest 1.1, 6 rest 1.2"},
		{"in 1 left; knit right f1 1; out 1; in 1 right; miss left f3 1; out 1; in 1 right; knit left f40 1", "8 rest 1.0, 8 rest 1.1"},
		{"in 1 left; out 1; in 1 right; knit left f40 1; knit left f33 1", "4 float 1.1, 4 stretch 1.1, 5 rest 1.0, 5 rest 1.1"},
		{"in 6 right; tuck left f40 6", "2 rest 6.0"},
		// The other carriers do not matter.
		{"in 1 left; knit right f1 1; in 2 left; out 2; in 2 right; knit right f8 1", "5 float 1.1, 5 stretch 1.1, 6 rest 1.0, 6 rest 1.1"},
	})
}

// P9.1: loops are stretched by the rack, too, and again when they have not been in between.
func TestStretch(t *testing.T) {
	expectReports(t, []reported{
		{"in 1 left; knit right f1 1; knit right b7 1; rack 1", "3 stretch 1.1, 4 rest 1.0, 4 rest 1.1"},
		{"in 1 left; knit right f1 1; knit right b7 1; rack 1; rack 4; rack 1", "3 stretch 1.1, 6 rest 1.0, 6 rest 1.1"},
		{"in 1 left; knit right f1 1; knit right b7 1; rack 4; rack 0; rack 1; rack -4; rack 3", "3 stretch 1.1, 5 stretch 1.1, 7 stretch 1.1, 8 rest 1.0, 8 rest 1.1"},
		{"in 1 left; knit right f1 1; knit right b7 1; rack -4; rack 0; rack -1", "6 rest 1.0, 6 rest 1.1"},
		{"in 1 left; knit right b4 1; knit right f10 1; rack 4; rack -1; out 1", "4 stretch 1.1, 6 rest 1.0, 6 rest 1.1"},
		{"in 1 right; knit left f10 1; knit left b4 1; rack -1; rack 0; rack -4", "3 stretch 1.1, 5 stretch 1.1, 6 rest 1.0, 6 rest 1.1"},
		// Loops of the same bed stay as far apart as they are.
		{"in 1 left; knit right b1 1; knit right b7 1; rack 4; rack -4", "5 rest 1.0, 5 rest 1.1"},
		// Nothing is told again that has been there before an operation.
		{"in 1 left; knit right f1 1; knit right f8 1; xfer f8; xfer b8; in 2 right; tuck left f40 2; drop f40; out 1", "2 float 1.1, 2 stretch 1.1, 7 undone 2.0, 9 rest 1.0, 9 rest 1.1"},
		// Both must be held, of the same yarn, and follow each other.
		{"in 1 left; knit right f1 1; knit right b7 1; drop f1; rack 4", "3 undone 1.0, 5 rest 1.1"},
		{"in 1 left; knit right f1 1; knit right b7 1; drop b7; rack 4", "3 undone 1.1, 5 rest 1.0"},
		{"in 1 left; knit right f1 1; knit right b7 1; in 2 left; knit right f1 2; rack 4", "6 rest 1.1, 6 rest 2.0"},
		{"in 1 left; in 2 right; knit right f1 1; knit left b7 2; rack 4", "5 rest 1.0, 5 rest 2.0"},
		{"in 1 left; knit right f1 1; knit right f4 1; knit right b7 1; rack 3", "5 rest 1.0, 5 rest 1.1, 5 rest 1.2"},
		{"in 1 left; knit right f1 1; knit right f4 1; knit right b7 1; rack 4", "4 stretch 1.2, 5 rest 1.0, 5 rest 1.1, 5 rest 1.2"},
		// Where they are now counts, not where they were made.
		{"in 1 left; knit right f1 1; xfer f1; rack -1; knit right f6 1", "5 rest 1.0, 5 rest 1.1"},
		{"in 1 left; knit right f1 1; xfer f1; rack -1; knit right f7 1", "4 stretch 1.1, 5 rest 1.0, 5 rest 1.1"},
		{"in 1 left; knit right f1 1; knit right f7 1; xfer f7; rack 1; xfer b7; rack 0", "4 stretch 1.1, 7 rest 1.0, 7 rest 1.1"},
		// Several at once come in the order of their names.
		{"in 2 left; in 1 left; knit right f1 2; knit right b7 2; knit right f2 1; knit right b8 1; rack 2; rack 0; rack -3", "6 stretch 1.1, 6 stretch 2.1, 9 rest 1.0, 9 rest 1.1, 9 rest 2.0, 9 rest 2.1"},
		{"in 1 left; knit right b5 1; knit right f11 1; knit left b6 1; rack -1; rack 0; rack -2", "4 stretch 1.1, 6 stretch 1.1, 6 stretch 1.2, 7 rest 1.0, 7 rest 1.1, 7 rest 1.2"},
	})
}

// P9.1: the fourth loop of a needle is one too many; another needle tells again.
func TestHook(t *testing.T) {
	four := "in 1 left; tuck right f1 1; tuck left f1 1; tuck right f1 1; tuck left f1 1; "
	both := "in 1 right; tuck left f2 1; tuck right f2 1; in 2 left; tuck right b2 2; tuck left b2 2; "
	expectReports(t, []reported{
		{"in 1 left; tuck right f1 1; tuck left f1 1; tuck right f1 1", "4 rest 1.0, 4 rest 1.1, 4 rest 1.2"},
		{four, "4 hook 1.3, 5 rest 1.0, 5 rest 1.1, 5 rest 1.2, 5 rest 1.3"},
		{four + "in 2 right; tuck left f9 2; rack 2; miss right b40 1", "4 hook 1.3, 9 rest 1.0, 9 rest 1.1, 9 rest 1.2, 9 rest 1.3, 9 rest 2.0"},
		{four + "knit right f1 1; tuck left f1 1; tuck right f1 1", "4 hook 1.3, 8 rest 1.4, 8 rest 1.5, 8 rest 1.6"},
		{four + "knit right f1 1; tuck left f1 1; tuck right f1 1; tuck left f1 1", "4 hook 1.3, 8 hook 1.7, 9 rest 1.4, 9 rest 1.5, 9 rest 1.6, 9 rest 1.7"},
		{four + "miss right f1 1; xfer f1; xfer b1; rack 0", "4 hook 1.3, 6 hook 1.3, 7 hook 1.3, 9 rest 1.0, 9 rest 1.1, 9 rest 1.2, 9 rest 1.3"},
		{four + "in 2 left; tuck right b1 2; tuck left b1 2; tuck right b1 2; tuck left b1 2", "4 hook 1.3, 9 hook 2.3, 10 rest 1.0, 10 rest 1.1, 10 rest 1.2, 10 rest 1.3, 10 rest 2.0, 10 rest 2.1, 10 rest 2.2, 10 rest 2.3"},
		{four + "drop f1", "4 hook 1.3, 5 undone 1.0, 5 undone 1.1, 5 undone 1.2, 5 undone 1.3"},
		// The last one of the stack is neither the newest one nor the one with the greatest name.
		{both + "xfer f2", "6 hook 1.1, 7 rest 1.0, 7 rest 1.1, 7 rest 2.0, 7 rest 2.1"},
		{both + "xfer b2", "6 hook 1.1, 7 rest 1.0, 7 rest 1.1, 7 rest 2.0, 7 rest 2.1"},
		{"in 2 right; tuck left f2 2; tuck right f2 2; in 1 left; tuck right b2 1; tuck left b2 1; xfer f2; rack 1; xfer b2", "6 hook 2.1, 8 hook 2.1, 9 rest 1.0, 9 rest 1.1, 9 rest 2.0, 9 rest 2.1"},
		{"in 3 left; tuck right b5 3; in 2 right; tuck left f5 2; tuck right f5 2; tuck left f5 2; miss right f5 2; miss left b5 3; xfer b5", "8 hook 2.2, 9 rest 2.0, 9 rest 2.1, 9 rest 2.2, 9 rest 3.0"},
		// Three and one, and two and one.
		{both + "in 3 left; knit right b2 3; miss left b2 3; xfer f2", "10 rest 1.0, 10 rest 1.1, 10 rest 3.0"},
	})
}

// P9.1: what falls comes undone, but for what is fastened at the end.
func TestUndone(t *testing.T) {
	expectReports(t, []reported{
		{"in 1 left; knit right f1 1; knit right f2 1; knit left f2 1; drop f2", "5 rest 1.0"},
		{"in 1 left; knit right f1 1; knit right f2 1; knit left f2 1; drop f2; knit left f1 1", "4 undone 1.2, 6 rest 1.3"},
		{"in 1 left; knit right f1 1; knit right f2 1; knit left f2 1; drop f2; knit left f1 1; drop f1", "4 undone 1.2"},
		{"in 1 left; knit right f1 1; knit left f1 1; drop f1; out 1; in 1 left; knit right f1 1; drop f1", "3 undone 1.1, 7 undone 1.2"},
		{"in 1 left; knit right f1 1; knit left f1 1; drop f1; out 1; in 1 left; miss right f40 1", ""},
		{"in 1 left; knit right f1 1; tuck left f1 1; drop f1", "3 undone 1.0, 3 undone 1.1"},
		{"in 1 left; knit right f1 1; knit left f1 1; tuck right f1 1; drop f1", "4 undone 1.1, 4 undone 1.2"},
		{"in 1 left; knit right f1 1; knit left f1 1; tuck right f1 1; knit left f1 1; drop f1", ""},
		{"in 1 left; in 2 left; knit right f1 1; knit right f1 2; drop f1", ""},
		{"in 1 left; in 2 left; knit right f1 1; knit right f1 2; tuck left f1 1; drop f1", "5 undone 1.1"},
		{"in 1 left; in 2 left; knit right f1 1; knit right f1 2; drop f1; tuck right f2 2; drop f2", "4 undone 2.0, 6 undone 2.1"},
		// By name, however they hung.
		{"in 1 right; tuck left f2 1; tuck right f2 1; in 2 left; tuck right b2 2; tuck left b2 2; xfer f2; drop b2", "6 hook 1.1, 7 undone 1.0, 7 undone 1.1, 7 undone 2.0, 7 undone 2.1"},
		{"in 1 left; knit right f1 1; knit right f2 1; drop f2; drop f1", "3 undone 1.1, 4 undone 1.0"},
	})
}

// P9.1: by operation, then by kind, then by name.
func TestOrder(t *testing.T) {
	expectReports(t, []reported{
		{"in 2 left; tuck right f8 2; tuck left f8 2; tuck right f8 2; in 1 left; knit right f1 1; tuck right f8 1", "6 float 1.1, 6 stretch 1.1, 6 hook 1.1, 7 rest 1.0, 7 rest 1.1, 7 rest 2.0, 7 rest 2.1, 7 rest 2.2"},
		{"in 2 left; knit right f1 2; tuck right f8 2; tuck left f8 2; in 1 left; tuck right f1 1; tuck right f8 1; tuck left f8 1; tuck left f1 1; drop f8; drop f1",
			"2 float 2.1, 2 stretch 2.1, 6 float 1.1, 6 stretch 1.1, 7 hook 1.2, 8 float 1.3, 8 stretch 1.3, 9 undone 1.1, 9 undone 1.2, 9 undone 2.1, 9 undone 2.2, 10 undone 1.0, 10 undone 1.3, 10 undone 2.0"},
		{"in 6 left; in 5 left; in 1 left; tuck right f3 6; tuck right f2 5; tuck right f1 1; tuck right b9 6; tuck right b8 5; tuck right b7 1; rack 1",
			"9 stretch 1.1, 9 stretch 5.1, 9 stretch 6.1, 10 rest 1.0, 10 rest 1.1, 10 rest 5.0, 10 rest 5.1, 10 rest 6.0, 10 rest 6.1"},
	})
}

// P9.1, P9.2: a program with an error has no hazards, whatever comes before it.
func TestErrors(t *testing.T) {
	for _, c := range []struct {
		text  string
		index int
		want  api.Errno
	}{
		{"knit right f1 1", 0, api.ErrYarn},
		{"xfer f1", 0, api.ErrEmpty},
		{"in 1 left; rack 0; in 1 right", 2, api.ErrYarn},
		{"in 1 left; knit right f1 1; drop f1; drop f1; knit right f1 1", 3, api.ErrEmpty},
		{"in 1 left; knit right f1 1; knit right f40 1; drop f1; rack 4; xfer f40; rack -1; xfer f40", 7, api.ErrEmpty},
		{"in 1 left; knit right f1 1; knit right f40 1; drop f1; rack -4; xfer f40", 5, api.ErrRack},
		{"in 1 left; tuck right f1 1; tuck left f1 1; tuck right f1 1; tuck left f1 1; tuck right f1 1", 5, api.ErrFull},
	} {
		expectError(t, c.text, program(t, c.text), c.index, c.want)
	}
	begin := program(t, "in 1 left; knit right f1 1; knit right f9 1; drop f1")
	for _, o := range invalid() {
		want := operations.Check(o)
		expectError(t, fmt.Sprint(o), []operations.Op{o}, 0, want)
		expectError(t, fmt.Sprint(o), append(slices.Clone(begin), o, begin[0]), len(begin), want)
	}
}

// invalid returns operations that are not valid.
func invalid() []operations.Op {
	l := []operations.Op{
		{}, {Kind: 9}, {Kind: 255, Yarn: 1}, {Kind: operations.In}, {Kind: operations.In, Yarn: 7}, {Kind: operations.In, Yarn: 1, Dir: 2},
		{Kind: operations.Out, Yarn: 255}, {Kind: operations.Out, Yarn: 1, Rack: 1}, {Kind: operations.Rack, Rack: 5}, {Kind: operations.Rack, Rack: -5},
		{Kind: operations.Knit, Dir: api.Right, Needle: front(9)}, {Kind: operations.Knit, Dir: api.Right, Needle: front(41), Yarn: 1},
		{Kind: operations.Tuck, Dir: 255, Needle: front(9), Yarn: 1}, {Kind: operations.Miss, Needle: api.Needle{Bed: 2, At: 1}, Yarn: 1},
		{Kind: operations.Xfer}, {Kind: operations.Xfer, Needle: back(0)}, {Kind: operations.Drop, Needle: back(1), Yarn: 1},
	}
	for _, n := range extremes {
		l = append(l,
			operations.Op{Kind: operations.Rack, Rack: n}, operations.Op{Kind: operations.Knit, Dir: api.Right, Needle: front(n), Yarn: 1},
			operations.Op{Kind: operations.Xfer, Needle: back(n)}, operations.Op{Kind: operations.Drop, Needle: front(n)})
	}
	return l
}

// wide returns a program of so many operations that makes n loops, each of which is far from the one before, and misses then.
func wide(n, count int) []operations.Op {
	l := []operations.Op{{Kind: operations.In, Yarn: 3}}
	for i := range count - 1 {
		o := operations.Op{Kind: operations.Knit, Dir: api.Right, Needle: front(8), Yarn: 3}
		if i%2 == 1 {
			o.Dir, o.Needle = api.Left, front(1)
		}
		if i >= n {
			o.Kind = operations.Miss
		}
		l = append(l, o)
	}
	return l
}

// P9.1, P9.2: as many operations and loops as possible, and one more.
func TestMost(t *testing.T) {
	var want []string
	for i := 1; i < maxLoops; i++ {
		want = append(want, fmt.Sprintf("%d float 3.%d", i+1, i), fmt.Sprintf("%d stretch 3.%d", i+1, i))
	}
	want = append(want, fmt.Sprintf("%d rest 3.%d", maxOps, maxLoops-2), fmt.Sprintf("%d rest 3.%d", maxOps, maxLoops-1))
	expectReport(t, "the greatest program", wide(maxLoops, maxOps), strings.Join(want, ", "))
	expectError(t, "a loop more", wide(maxLoops+1, maxOps), maxLoops+1, api.ErrLimit)
	expectError(t, "an operation more", wide(maxLoops, maxOps+1), 0, api.ErrLimit)
	expectError(t, "too many operations that are not valid", make([]operations.Op, maxOps+1), 0, api.ErrLimit)
}

// P9.3: the texts of all kinds.
func TestText(t *testing.T) {
	texts := map[string]bool{}
	for _, op := range []int{0, 1, 9, 10, 4095, maxOps, math.MaxInt32, math.MaxInt} {
		for kind, word := range kindWords {
			for y := uint8(1); y <= maxYarn; y++ {
				for _, n := range []int{0, 1, 9, 10, 99, 100, 1024, maxLoops - 1} {
					h := hazards.Hazard{Op: op, Kind: kind, Id: id(y, n)}
					want := fmt.Sprintf("%d %s %d.%d", op, word, y, n)
					if got := hazards.Text(h); got != want {
						t.Errorf("Text(%v) = %q, expected %q", h, got, want)
					}
					if texts[want] {
						t.Errorf("%q is twice there", want)
					}
					texts[want] = true
				}
			}
		}
	}
	l, _, _ := hazards.Report(program(t, "in 1 left; knit right f1 1; knit right f8 1; drop f8"))
	var got []string
	for _, h := range l {
		got = append(got, hazards.Text(h))
	}
	if want := []string{"2 float 1.1", "2 stretch 1.1", "3 undone 1.1", "4 rest 1.0"}; !slices.Equal(got, want) {
		t.Errorf("%q, expected %q", got, want)
	}
}

// P9.3: what has no text.
func TestNoText(t *testing.T) {
	right := hazards.Hazard{Op: 3, Kind: hazards.Hook, Id: id(2, 7)}
	wrong := []hazards.Hazard{{}, {Op: 3}, {Id: id(2, 7)}, {Kind: hazards.Float}}
	with := func(change func(*hazards.Hazard)) {
		h := right
		change(&h)
		wrong = append(wrong, h)
	}
	for k := range 256 {
		if k < 1 || k > 5 {
			with(func(h *hazards.Hazard) { h.Kind = hazards.Kind(k) })
		}
		if k < 1 || k > maxYarn {
			with(func(h *hazards.Hazard) { h.Id.Yarn = uint8(k) })
		}
	}
	for _, n := range append([]int{-1, maxLoops}, extremes...) {
		if n < 0 {
			with(func(h *hazards.Hazard) { h.Op = n })
		}
		with(func(h *hazards.Hazard) { h.Id.N = n })
	}
	for _, h := range wrong {
		if got := hazards.Text(h); got != "" {
			t.Errorf("Text(%v) = %q", h, got)
		}
	}
	if got := hazards.Text(right); got != "3 hook 2.7" {
		t.Errorf("Text(%v) = %q", right, got)
	}
}

// R1, R4: arguments stay as they are, also behind their ends, and results are new memory.
func TestMemory(t *testing.T) {
	for _, text := range []string{
		"in 1 left; knit right f1 1; knit right f8 1; knit right f9 1; drop f9",
		"in 1 left; knit right f1 1; knit right f8 1; xfer f40",
		"in 1 left; knit right f1 1; knit left f1 1; drop f1; out 1",
	} {
		all := program(t, text)
		l := append(make([]operations.Op, 0, len(all)+3), all...)
		given := slices.Clone(l[:cap(l)])
		first, n, e := hazards.Report(l)
		safe := hazards.Check(l)
		if !slices.Equal(l[:cap(l)], given) {
			t.Errorf("%q: the argument has changed to %v", text, l)
		}
		want := slices.Clone(first)
		clear(l)
		if !slices.Equal(first, want) {
			t.Errorf("%q: the result shares memory with the argument", text)
		}
		clear(first)
		second, m, f := hazards.Report(all)
		if !slices.Equal(second, want) || m != n || f != e || hazards.Check(all) != safe {
			t.Errorf("%q: %v, %d, %d, expected %v, %d, %d", text, second, m, f, want, n, e)
		}
	}
}
