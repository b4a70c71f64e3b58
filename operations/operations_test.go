package operations_test

import (
	"math"
	"slices"
	"strconv"
	"strings"
	"testing"

	"gansey/api"
	"gansey/operations"
)

const (
	maxNeedle = 40
	maxRack   = 4
	maxYarn   = 6
	maxOps    = 4096
)

// extremes are numbers that neither a needle nor a rack can have; some become valid ones if they are cut off.
var extremes = []int{
	math.MinInt, math.MinInt + 1, math.MinInt32, -1 << 16, -257, -256, -255, -41,
	256, 257, 260, 1 << 16, 1<<16 + 1, math.MaxInt32, 1 << 32, 1<<32 + 1, 1 << 62, math.MaxInt - 1, math.MaxInt,
}

func front(at int) api.Needle { return api.Needle{Bed: api.Front, At: at} }

func back(at int) api.Needle { return api.Needle{Bed: api.Back, At: at} }

func in(y uint8, side api.Dir) operations.Op {
	return operations.Op{Kind: operations.In, Dir: side, Yarn: y}
}

func out(y uint8) operations.Op { return operations.Op{Kind: operations.Out, Yarn: y} }

func rack(r int) operations.Op { return operations.Op{Kind: operations.Rack, Rack: r} }

func knit(d api.Dir, n api.Needle, y uint8) operations.Op {
	return operations.Op{Kind: operations.Knit, Dir: d, Needle: n, Yarn: y}
}

func tuck(d api.Dir, n api.Needle, y uint8) operations.Op {
	return operations.Op{Kind: operations.Tuck, Dir: d, Needle: n, Yarn: y}
}

func miss(d api.Dir, n api.Needle, y uint8) operations.Op {
	return operations.Op{Kind: operations.Miss, Dir: d, Needle: n, Yarn: y}
}

func xfer(n api.Needle) operations.Op { return operations.Op{Kind: operations.Xfer, Needle: n} }

func drop(n api.Needle) operations.Op { return operations.Op{Kind: operations.Drop, Needle: n} }

func program(l ...operations.Op) []operations.Op { return l }

// lines returns a text of lines, each with a line break behind it.
func lines(l ...string) string {
	var s string
	for _, line := range l {
		s += line + "\n"
	}
	return s
}

// texted is an operation and its text.
type texted struct {
	op   operations.Op
	text string
}

// all returns all valid operations with their texts, as the chapter's table has them.
func all() []texted {
	var l []texted
	dirs := map[string]api.Dir{"left": api.Left, "right": api.Right}
	for r := -maxRack; r <= maxRack; r++ {
		l = append(l, texted{rack(r), "rack " + strconv.Itoa(r)})
	}
	for at := 1; at <= maxNeedle; at++ {
		for bed, n := range map[string]api.Needle{"f": front(at), "b": back(at)} {
			s := bed + strconv.Itoa(at)
			l = append(l, texted{xfer(n), "xfer " + s}, texted{drop(n), "drop " + s})
		}
	}
	for i := 1; i <= maxYarn; i++ {
		y, number := uint8(i), strconv.Itoa(i)
		l = append(l, texted{out(y), "out " + number})
		for word, d := range dirs {
			l = append(l, texted{in(y, d), "in " + number + " " + word})
			for at := 1; at <= maxNeedle; at++ {
				for bed, n := range map[string]api.Needle{"f": front(at), "b": back(at)} {
					s := " " + word + " " + bed + strconv.Itoa(at) + " " + number
					l = append(l, texted{knit(d, n, y), "knit" + s}, texted{tuck(d, n, y), "tuck" + s}, texted{miss(d, n, y), "miss" + s})
				}
			}
		}
	}
	// Neither the maps' order nor that of the kinds shall matter to a test.
	slices.SortFunc(l, func(a, b texted) int { return strings.Compare(a.text, b.text) })
	return l
}

// ops returns all valid operations.
func ops() []operations.Op {
	var l []operations.Op
	for _, x := range all() {
		l = append(l, x.op)
	}
	return l
}

// byText returns the valid operations by their texts.
func byText() map[string]operations.Op {
	m := map[string]operations.Op{}
	for _, x := range all() {
		m[x.text] = x.op
	}
	return m
}

// some returns an operation of each kind, with the ends of what its fields can be.
func some() []texted {
	return []texted{
		{in(1, api.Left), "in 1 left"}, {in(6, api.Right), "in 6 right"}, {out(1), "out 1"}, {out(6), "out 6"},
		{rack(-4), "rack -4"}, {rack(0), "rack 0"}, {rack(4), "rack 4"},
		{knit(api.Left, front(1), 1), "knit left f1 1"}, {knit(api.Right, back(40), 6), "knit right b40 6"},
		{tuck(api.Left, back(10), 2), "tuck left b10 2"}, {tuck(api.Right, front(39), 5), "tuck right f39 5"},
		{miss(api.Left, front(40), 4), "miss left f40 4"}, {miss(api.Right, back(1), 3), "miss right b1 3"},
		{xfer(front(1)), "xfer f1"}, {xfer(back(40)), "xfer b40"}, {drop(back(1)), "drop b1"}, {drop(front(40)), "drop f40"},
	}
}

// wrong returns operations that are not valid, of all kinds, with their errors.
func wrong() map[operations.Op]api.Errno {
	m := map[operations.Op]api.Errno{{}: api.ErrArg, rack(5): api.ErrRack, rack(-5): api.ErrRack}
	for _, o := range []operations.Op{
		in(0, api.Left), in(7, api.Left), in(1, 2), out(0), out(7), out(255),
		knit(api.Left, front(0), 1), knit(2, front(1), 1), knit(api.Right, front(1), 0), knit(api.Right, api.Needle{}, 1),
		tuck(api.Left, front(41), 1), tuck(255, front(1), 1), tuck(api.Right, front(1), 7),
		miss(api.Left, api.Needle{Bed: 2, At: 1}, 1), miss(3, front(1), 1), miss(api.Right, front(1), 255),
		xfer(front(0)), xfer(back(41)), xfer(api.Needle{}), drop(front(-1)), drop(api.Needle{Bed: 255, At: 40}),
		{Kind: 9}, {Kind: 9, Yarn: 1}, {Kind: 255, Needle: front(1)}, {Kind: operations.Rack, Yarn: 1, Rack: 5},
		{Kind: operations.Out, Yarn: 1, Dir: api.Right}, {Kind: operations.Xfer, Needle: front(1), Yarn: 1},
		{Kind: operations.Drop, Needle: front(1), Rack: 1}, {Kind: operations.In, Yarn: 1, Needle: front(1)},
	} {
		m[o] = api.ErrArg
	}
	return m
}

func expectCheck(t *testing.T, o operations.Op, want api.Errno) {
	t.Helper()
	if e := operations.Check(o); e != want {
		t.Errorf("Check(%v) = %d, expected %d", o, e, want)
	}
}

func expectText(t *testing.T, o operations.Op, want string) {
	t.Helper()
	if s := operations.Text(o); s != want {
		t.Errorf("Text(%v) = %q, expected %q", o, s, want)
	}
}

func expectParse(t *testing.T, s string, want operations.Op, we api.Errno) {
	t.Helper()
	if o, e := operations.Parse(s); o != want || e != we {
		t.Errorf("Parse(%q) = %v, %d, expected %v, %d", s, o, e, want, we)
	}
}

func expectNoText(t *testing.T, texts ...string) {
	t.Helper()
	for _, s := range texts {
		expectParse(t, s, operations.Op{}, api.ErrForm)
	}
}

func expectFormat(t *testing.T, l []operations.Op, want string) {
	t.Helper()
	if s := operations.Format(l); s != want {
		t.Errorf("Format of %d operations is %q, expected %q", len(l), short(s), short(want))
	}
}

func expectProgram(t *testing.T, s string, want []operations.Op, line int, we api.Errno) {
	t.Helper()
	l, n, e := operations.Program(s)
	if !slices.Equal(l, want) || n != line || e != we {
		t.Errorf("Program(%q) = %d operations, line %d, %d, expected %d, line %d, %d", short(s), len(l), n, e, len(want), line, we)
	}
	if cap(l) != len(l) {
		t.Errorf("Program(%q): %d operations with room for %d", short(s), len(l), cap(l))
	}
}

// short returns a text, or both ends of one that is too long to show.
func short(s string) string {
	if len(s) > 200 {
		return s[:100] + " .. " + s[len(s)-100:]
	}
	return s
}

// The examples of the chapter.
func TestExamples(t *testing.T) {
	for s, o := range map[string]operations.Op{
		"in 3 left": in(3, api.Left), "rack -2": rack(-2), "out 6": out(6),
		"knit right f4 3": knit(api.Right, front(4), 3), "xfer b12": xfer(back(12)),
	} {
		expectCheck(t, o, api.OK)
		expectText(t, o, s)
		expectParse(t, s, o, api.OK)
	}
	expectNoText(t, "rack 5", "rack -0", "knit f4 3", "in 07 left")
	expectProgram(t, "  rack 1 # a remark\n\ndrop f1", program(rack(1), drop(front(1))), 0, api.OK)
	expectProgram(t, "rack 1\nrack", nil, 2, api.ErrForm)
	expectCheck(t, rack(5), api.ErrRack)
	expectCheck(t, operations.Op{Kind: operations.Rack, Yarn: 1, Rack: 5}, api.ErrArg)
}

// The numbers of the kinds.
func TestKinds(t *testing.T) {
	for i, k := range []operations.Kind{
		operations.In, operations.Out, operations.Rack, operations.Knit,
		operations.Tuck, operations.Miss, operations.Xfer, operations.Drop,
	} {
		if int(k) != i+1 {
			t.Errorf("the kind %d is %d", i+1, k)
		}
	}
}

// P7.1
func TestCheckValid(t *testing.T) {
	if n := len(all()); n != 9+160+6+12+2880 {
		t.Fatalf("there are %d valid operations", n)
	}
	for _, o := range ops() {
		expectCheck(t, o, api.OK)
	}
}

// P7.1, and what it says of the others.
func TestCheckInvalid(t *testing.T) {
	for o, e := range wrong() {
		expectCheck(t, o, e)
	}
}

// eachOp visits operations with all kinds of fields, valid and not.
func eachOp(visit func(operations.Op)) {
	needles := []api.Needle{{}, front(1), back(1), front(40), back(40), front(41), back(0), front(-1), {Bed: 2, At: 1}, {Bed: 2}, {Bed: 255, At: 40}}
	racks := []int{-1000, -6, -5, -4, -1, 0, 1, 4, 5, 6, 1000}
	for _, r := range extremes {
		needles = append(needles, front(r), back(r))
		racks = append(racks, r)
	}
	for _, k := range []operations.Kind{0, 1, 2, 3, 4, 5, 6, 7, 8, 9, 10, 11, 128, 254, 255} {
		for _, d := range []api.Dir{0, 1, 2, 3, 128, 255} {
			for _, y := range []uint8{0, 1, 2, 6, 7, 8, 128, 255} {
				for _, n := range needles {
					for _, r := range racks {
						visit(operations.Op{Kind: k, Dir: d, Needle: n, Yarn: y, Rack: r})
					}
				}
			}
		}
	}
}

// P7.1, P7.2, P1, R3: an operation is valid if it is one of all; otherwise a Rack is ErrRack if its rack alone makes the difference.
func TestOfAllFields(t *testing.T) {
	texts := map[operations.Op]string{}
	for _, x := range all() {
		texts[x.op] = x.text
	}
	seen := map[api.Errno]int{}
	eachOp(func(o operations.Op) {
		s, valid := texts[o]
		want := api.ErrArg
		if valid {
			want = api.OK
		} else if o == rack(o.Rack) {
			want = api.ErrRack
		}
		seen[want]++
		if e := operations.Check(o); e != want {
			t.Errorf("Check(%v) = %d, expected %d", o, e, want)
		}
		if got := operations.Text(o); got != s {
			t.Errorf("Text(%v) = %q, expected %q", o, got, s)
		}
	})
	if seen[api.OK] != 6+3+5+3*24+2*4 || seen[api.ErrRack] != 25 {
		t.Errorf("%d operations are valid, %d have ErrRack", seen[api.OK], seen[api.ErrRack])
	}
}

// P7.1: a field that is not used must be 0, also one that would be valid.
func TestUnusedFields(t *testing.T) {
	changes := []struct {
		used   string
		change func(*operations.Op)
	}{
		{"IKTM", func(o *operations.Op) { o.Dir = api.Right }},
		{"KTMXD", func(o *operations.Op) { o.Needle = front(1) }},
		{"KTMXD", func(o *operations.Op) { o.Needle = back(40) }},
		{"", func(o *operations.Op) { o.Needle.Bed = api.Back; o.Needle.At = 0 }},
		{"IOKTM", func(o *operations.Op) { o.Yarn = 1 }},
		{"IOKTM", func(o *operations.Op) { o.Yarn = 6 }},
		{"R", func(o *operations.Op) { o.Rack = 1 }},
		{"R", func(o *operations.Op) { o.Rack = -4 }},
	}
	for _, x := range some() {
		for _, c := range changes {
			o := x.op
			c.change(&o)
			if strings.Contains(c.used, string(" IORKTMXD"[o.Kind])) {
				expectCheck(t, o, api.OK)
			} else {
				expectCheck(t, o, api.ErrArg)
				expectText(t, o, "")
			}
		}
	}
}

// P7.2, P7.4
func TestTextsOfAll(t *testing.T) {
	for _, x := range all() {
		expectText(t, x.op, x.text)
		expectParse(t, x.text, x.op, api.OK)
	}
	for _, x := range some() {
		expectText(t, x.op, x.text)
		expectParse(t, x.text, x.op, api.OK)
	}
}

// P7.2
func TestTextInvalid(t *testing.T) {
	for o := range wrong() {
		expectText(t, o, "")
	}
}

// P7.2, P1, R3: texts that are of no operation, among them numbers that are too great.
func TestParseInvalid(t *testing.T) {
	expectNoText(t,
		"", " ", "  ", "#", "\n", "\x00", "in", "out", "rack", "knit", "tuck", "miss", "xfer", "drop", "left", "f1", "1",
		"in ", "in  ", "in 3", "in 3 ", "in left", "in left 3", "in 3 front", "in 3 l", "in 3 LEFT", "in 3 left left", "in 3 left 0", "in f1 left", "in 3 left f1",
		"in 0 left", "in 7 left", "in -1 left", "in +1 left", "in 01 left", "in 10 left", "in 1.0 left", "in 257 left", "in 259 left", "in 0x1 left", "in 1_0 left",
		"in 18446744073709551617 left", "in 4294967299 right", "in left left", "in right 1",
		"out ", "out 0", "out 7", "out 06", "out 6 left", "out left", "out left 6", "out f6", "out 6 f1", "out 6 6", "out 262", "out -6", "out 99999999999999999999",
		"rack ", "rack 5", "rack -5", "rack -0", "rack +0", "rack +1", "rack 00", "rack 01", "rack -01", "rack --1", "rack - 1", "rack -", "rack 1 1", "rack 1 left",
		"rack left", "rack f1", "rack 1.", "rack 1e0", "rack 0x1", "rack 256", "rack 260", "rack 4294967297", "rack 18446744073709551617",
		"rack 9223372036854775807", "rack -9223372036854775808", "rack 9223372036854775808", "rack 1_0", "rack \u22121", "rack 1,",
		"knit f4 3", "knit 3", "knit right", "knit right f4", "knit right 3", "knit right 3 f4", "knit f4 right 3", "knit f4 3 right", "knit right f4 3 right", "knit right f4 3 0",
		"knit up f4 3", "knit Right f4 3", "knit r f4 3", "knit right f0 3", "knit right f41 3", "knit right f04 3", "knit right g4 3", "knit right 4 3", "knit right F4 3",
		"knit right f4 0", "knit right f4 7", "knit right f4 03", "knit right f4 +3", "knit right f4 -3", "knit right f4 259", "knit right f4b4 3", "knit right f4 f4 3",
		"knit right f4 3 # a remark", "knit right f4 3#", "purl right f4 3", "Knit right f4 3", "knits right f4 3", "kni right f4 3", "KNIT right f4 3",
		"tuck left f4", "tuck left 4", "tuck left b41 1", "miss left f4", "miss left b0 1", "tuck f1", "miss f1",
		"xfer", "xfer ", "xfer f", "xfer 1", "xfer f0", "xfer b41", "xfer f01", "xfer f1 f1", "xfer f1 b1", "xfer left f1", "xfer f1 1", "xfer f1 left", "xfer left f1 1",
		"drop b", "drop b00", "drop b41", "drop right b1", "drop b1 1", "drop b1 0", "drop f1 ", "drop  f1", " drop f1", "drop\tf1", "drop f1\n", "drop f1\r", "\ndrop f1", "drop\nf1", "drop f1\x00",
		"rack 1\nrack 1", "rack 1 rack 1", "rack1", "dropf1", "in3left", "in 3left", "out6", "drop\u00a0f1", "drop f\u0661", "drop \uff461", "out \u0663", "\ufeffdrop f1", "drop f1\xff", "\xff",
	)
}

// P7.2, P7.4: of all rows of up to five of these words just the texts of operations are parsed.
func TestParseOfAllWords(t *testing.T) {
	named := byText()
	vocabulary := []string{"in", "out", "rack", "knit", "miss", "drop", "left", "right", "f1", "b40", "f41", "0", "1", "6", "-4", ""}
	found := 0
	var visit func(s string, more int)
	visit = func(s string, more int) {
		o, e := operations.Parse(s)
		want, there := named[s]
		if there {
			found++
		}
		if there != (e == api.OK) || !there && e != api.ErrForm || o != want {
			t.Errorf("Parse(%q) = %v, %d, expected %v", s, o, e, want)
		}
		if more == 0 {
			return
		}
		for _, w := range vocabulary {
			visit(s+" "+w, more-1)
		}
	}
	for _, w := range vocabulary {
		visit(w, 4)
	}
	if found != 4+2+3+2*8+2 {
		t.Errorf("%d of these texts are of operations", found)
	}
}

// P7.2, P7.4: a text that is changed at one place is that of another operation, or of none.
func TestParseOfChangedTexts(t *testing.T) {
	named := byText()
	const used = "inoutrackkntmsxferdplghb0123456789-+ _#.\n\t\r\x00A\xff"
	expect := func(s string) {
		o, e := operations.Parse(s)
		if want, there := named[s]; there != (e == api.OK) || !there && e != api.ErrForm || o != want {
			t.Errorf("Parse(%q) = %v, %d, expected %v", s, o, e, want)
		}
	}
	for _, x := range some() {
		for i := 0; i <= len(x.text); i++ {
			before, behind := x.text[:i], x.text[i:]
			expect(before)
			expect(behind)
			for j := range len(used) {
				c := used[j : j+1]
				expect(before + c + behind)
				if behind != "" {
					expect(before + c + behind[1:])
				}
			}
			if behind != "" {
				expect(before + behind[1:])
			}
		}
	}
}

// P7.3
func TestFormat(t *testing.T) {
	expectFormat(t, nil, "")
	expectFormat(t, program(), "")
	expectFormat(t, program(rack(-1)), "rack -1\n")
	expectFormat(t, program(in(1, api.Left), knit(api.Right, front(1), 1), rack(2), rack(2), drop(front(1)), out(1)),
		lines("in 1 left", "knit right f1 1", "rack 2", "rack 2", "drop f1", "out 1"))
	var want []string
	for _, x := range all() {
		want = append(want, x.text)
	}
	expectFormat(t, ops(), strings.Join(want, "\n")+"\n")
}

// P7.3: an operation that is not valid, wherever it stands.
func TestFormatInvalid(t *testing.T) {
	for o := range wrong() {
		expectFormat(t, program(o), "")
		expectFormat(t, program(o, rack(1), rack(2)), "")
		expectFormat(t, program(rack(1), o, rack(2)), "")
		expectFormat(t, program(rack(1), rack(2), o), "")
	}
}

// P7.3: Format has no limit.
func TestFormatOfMany(t *testing.T) {
	l := slices.Repeat(program(rack(1)), 3*maxOps)
	expectFormat(t, l[:maxOps], strings.Repeat("rack 1\n", maxOps))
	expectFormat(t, l[:maxOps+1], strings.Repeat("rack 1\n", maxOps+1))
	expectFormat(t, l, strings.Repeat("rack 1\n", 3*maxOps))
	l[3*maxOps-1] = rack(5)
	expectFormat(t, l, "")
}

// P7.3: what is left out of a text that is read.
func TestProgram(t *testing.T) {
	two := program(rack(1), drop(front(2)))
	for _, s := range []string{
		"rack 1\ndrop f2\n", "rack 1\ndrop f2", "\nrack 1\n\n\ndrop f2\n\n", "  rack 1\ndrop f2   ", " rack 1 \n drop f2 \n ",
		"rack 1#\ndrop f2#", "rack 1# a remark\ndrop f2 #\n", "rack 1   # a # remark\n   #\ndrop f2", "# rack 5\nrack 1\n#drop\n  # drop f3\ndrop f2 #drop f3",
		"     \nrack 1\n \ndrop f2\n   ", "rack 1 #\t\x00\xff\r\ndrop f2#\r", "\n\n\n\n\n\n\n\n\n\n\nrack 1\ndrop f2", "rack 1\n#\ndrop f2\n#", "rack 1#\n\ndrop f2##",
	} {
		expectProgram(t, s, two, 0, api.OK)
	}
	for _, s := range []string{"", "\n", "\n\n\n", " ", "   \n  ", "#", "##", " #", "# in 1 left", "#\n", " # a\n\n#b\n "} {
		expectProgram(t, s, nil, 0, api.OK)
	}
	for _, x := range all() {
		expectProgram(t, x.text, program(x.op), 0, api.OK)
		expectProgram(t, "\n  "+x.text+"  #"+x.text+"\n", program(x.op), 0, api.OK)
	}
}

// P7.3, R2: the line of the first error; empty lines count.
func TestProgramErrors(t *testing.T) {
	for _, c := range []struct {
		text string
		line int
	}{
		{"rack", 1}, {"rack\n", 1}, {" rack # 1", 1}, {"#1\nrack\nrack", 2}, {"\n\n\nrack 5", 4}, {"rack 1\n # \n  \nrack 1\nrack 5\n", 5},
		{"rack  1", 1}, {"rack\t1", 1}, {"\track 1", 1}, {"rack 1\t", 1}, {"rack 1\r\nrack 2", 1}, {"rack 1\n\t\nrack 2", 2}, {"rack 1\n\r\n", 2}, {"rack 1 #\n\x00", 2},
		{"rack 1 rack 2", 1}, {"rack 1;rack 2", 1}, {"ra#ck 1", 1}, {"rack #1", 1}, {"rack 1\nin 1 left\nin 7 left\nin 8 left", 3}, {"// a remark", 1}, {"rack 1 // #", 1},
		{"rack 1\u00a0", 1}, {"rack 1\u2028rack 2", 1}, {"rack 1\vrack 2", 1}, {"rack 1\f", 1}, {"\ufeffrack 1", 1}, {"rack 1\n\xff", 2}, {"#\rrack 1\nx", 2},
	} {
		expectProgram(t, c.text, nil, c.line, api.ErrForm)
	}
}

// read is another way of reading a text: it decides of each line what it is, by the texts of all operations.
func read(s string, named map[string]operations.Op) ([]operations.Op, int, api.Errno) {
	var l []operations.Op
	for i, line := range strings.Split(s, "\n") {
		var kept []byte
		for j := 0; j < len(line) && line[j] != '#'; j++ {
			kept = append(kept, line[j])
		}
		for len(kept) > 0 && kept[0] == ' ' {
			kept = kept[1:]
		}
		for len(kept) > 0 && kept[len(kept)-1] == ' ' {
			kept = kept[:len(kept)-1]
		}
		o, there := named[string(kept)]
		switch {
		case len(kept) == 0:
		case !there:
			return nil, i + 1, api.ErrForm
		case len(l) == maxOps:
			return nil, i + 1, api.ErrLimit
		default:
			l = append(l, o)
		}
	}
	return l, 0, api.OK
}

// P7.3: all texts of up to six of these parts, read in another way.
func TestProgramOfAllParts(t *testing.T) {
	named := byText()
	parts := []string{"rack 1", "out 2", "rack", " ", "\n", "#", "\t"}
	var visit func(s string, more int)
	visit = func(s string, more int) {
		l, n, e := operations.Program(s)
		if want, line, we := read(s, named); !slices.Equal(l, want) || n != line || e != we {
			t.Errorf("Program(%q) = %v, %d, %d, expected %v, %d, %d", s, l, n, e, want, line, we)
		}
		if more == 0 {
			return
		}
		for _, p := range parts {
			visit(s+p, more-1)
		}
	}
	visit("", 6)
}

// P7.3: as many operations as there may be, and more; the first line with an error counts, whichever it has.
func TestProgramLimit(t *testing.T) {
	many := func(n int) string { return strings.Repeat("rack 1\n", n) }
	full := slices.Repeat(program(rack(1)), maxOps)
	expectProgram(t, many(maxOps), full, 0, api.OK)
	expectProgram(t, strings.TrimSpace(many(maxOps)), full, 0, api.OK)
	expectProgram(t, many(maxOps)+"\n \n# rack 1\n", full, 0, api.OK)
	expectProgram(t, "#\n"+many(maxOps/2)+"\n\n"+many(maxOps/2), full, 0, api.OK)
	expectProgram(t, strings.Repeat("\n# rack 1\n", maxOps)+many(maxOps), full, 0, api.OK)
	for _, c := range []struct {
		text string
		line int
		e    api.Errno
	}{
		{many(maxOps + 1), maxOps + 1, api.ErrLimit},
		{many(maxOps) + "drop f1", maxOps + 1, api.ErrLimit},
		{many(2 * maxOps), maxOps + 1, api.ErrLimit},
		{"\n#\n" + many(maxOps+1), maxOps + 3, api.ErrLimit},
		{many(maxOps) + "\n\n  #\n rack 1 #", maxOps + 4, api.ErrLimit},
		{many(maxOps) + "rack", maxOps + 1, api.ErrForm},
		{many(maxOps) + "rack 5\nrack 1", maxOps + 1, api.ErrForm},
		{many(maxOps) + "rack 1\nrack", maxOps + 1, api.ErrLimit},
		{many(maxOps) + "\nrack\nrack 1", maxOps + 2, api.ErrForm},
		{many(maxOps-1) + "rack\n" + many(9), maxOps, api.ErrForm},
		{"rack\n" + many(2*maxOps), 1, api.ErrForm},
	} {
		expectProgram(t, c.text, nil, c.line, c.e)
	}
}

// P7.4: Program inverts Format, for programs of all lengths.
func TestProgramInvertsFormat(t *testing.T) {
	everything := ops()
	expectProgram(t, operations.Format(everything), everything, 0, api.OK)
	for n := range 64 {
		var l []operations.Op
		for i := range n * n {
			l = append(l, everything[(i*7919+n*131)%len(everything)])
		}
		expectProgram(t, operations.Format(l), l, 0, api.OK)
	}
}

// P7.4: what is read is the program of the text that it has then.
func TestFormatOfWhatIsRead(t *testing.T) {
	l, _, e := operations.Program(" in 1 left#\n\n knit right f1 1 \n# a remark\nout 1")
	if e != api.OK {
		t.Fatalf("Program has the error %d", e)
	}
	expectFormat(t, l, lines("in 1 left", "knit right f1 1", "out 1"))
}

// R1: Format leaves its argument as it is, and what is behind its end.
func TestArgumentsStay(t *testing.T) {
	for _, l := range [][]operations.Op{ops(), program(rack(1), rack(5), out(1))} {
		given := append(make([]operations.Op, 0, len(l)+9), l...)
		behind := given[len(l):cap(given)]
		for i := range behind {
			behind[i] = drop(front(i + 1))
		}
		operations.Format(given)
		if !slices.Equal(given, l) {
			t.Error("Format changed its argument")
		}
		for i, o := range behind {
			if o != drop(front(i+1)) {
				t.Errorf("Format changed what is behind its argument: %v", o)
			}
		}
	}
}

// R4: what is done with a result changes no other one.
func TestResultsAreTheirOwn(t *testing.T) {
	const s = "rack 1\ndrop f1\nout 2"
	want := program(rack(1), drop(front(1)), out(2))
	a, _, _ := operations.Program(s)
	b, _, _ := operations.Program(s)
	for i := range a {
		a[i] = operations.Op{}
	}
	if !slices.Equal(b, want) {
		t.Errorf("a second result became %v", b)
	}
	expectProgram(t, s, want, 0, api.OK)
}
