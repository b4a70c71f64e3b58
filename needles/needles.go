// Package needles is layer 1: see shared/doc/01-needles.md.
package needles

import (
	"strconv"

	"gansey/api"
)

// The places left and right of all needles, whatever the rack is.
const (
	LeftEnd  = -13
	RightEnd = 179
)

// Check returns why a needle is not valid, or OK. (P1.1)
func Check(n api.Needle) api.Errno {
	if bedName(n.Bed) == "" || n.At < 1 || n.At > api.MaxNeedle {
		return api.ErrArg
	}
	return api.OK
}

// Spot returns the spot of a needle. (P1.2)
func Spot(n api.Needle, rack int) int {
	if Check(n) != api.OK || !rackValid(rack) {
		return 0
	}
	if n.Bed == api.Front {
		return 4*n.At + 2
	}
	return 4 * (n.At + rack)
}

// At returns the needle with a spot. (P1.2)
func At(spot, rack int) (api.Needle, api.Errno) {
	if !rackValid(rack) {
		return api.Needle{}, api.ErrRack
	}
beds:
	for _, bed := range [...]api.Bed{api.Front, api.Back} {
		for i := range api.MaxNeedle {
			n := api.Needle{Bed: bed, At: i + 1}
			s := Spot(n, rack)
			if s == spot {
				return n, api.OK
			}
			// Spots grow along a bed, so none of the needles that follow has it.
			if s > spot {
				continue beds
			}
		}
	}
	return api.Needle{}, api.ErrNone
}

// Opposite returns the needle of the other bed with the same position. (P1.3)
func Opposite(n api.Needle, rack int) (api.Needle, api.Errno) {
	if Check(n) != api.OK {
		return api.Needle{}, api.ErrArg
	}
	if !rackValid(rack) {
		return api.Needle{}, api.ErrRack
	}
	o := api.Needle{Bed: api.Front, At: n.At + rack}
	if n.Bed == api.Front {
		o = api.Needle{Bed: api.Back, At: n.At - rack}
	}
	if Check(o) != api.OK {
		return api.Needle{}, api.ErrRack
	}
	return o, api.OK
}

// Text formats a needle. (P1.4)
func Text(n api.Needle) string {
	if Check(n) != api.OK {
		return ""
	}
	return bedName(n.Bed) + strconv.Itoa(n.At)
}

// Parse returns the needle with a text. (P1.4)
func Parse(s string) (api.Needle, api.Errno) {
	if s == "" {
		return api.Needle{}, api.ErrForm
	}
	bed := api.Front
	if s[:1] == bedName(api.Back) {
		bed = api.Back
	}
	at, err := strconv.Atoi(s[1:])
	if err != nil {
		return api.Needle{}, api.ErrForm
	}
	// A needle has one text only: another bed's name, a sign or a leading zero shows here.
	n := api.Needle{Bed: bed, At: at}
	if Text(n) != s {
		return api.Needle{}, api.ErrForm
	}
	return n, api.OK
}

// bedName returns the letter of a bed, and an empty text if there is no such bed.
func bedName(b api.Bed) string {
	switch b {
	case api.Front:
		return "f"
	case api.Back:
		return "b"
	}
	return ""
}

func rackValid(rack int) bool { return -api.MaxRack <= rack && rack <= api.MaxRack }
