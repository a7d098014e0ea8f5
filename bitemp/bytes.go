package bitemp

import "chattel/api"

// The kinds of versions, as their bytes tell them.
const (
	ofFixing = 0
	ofChoice = 1
)

// parts is how many numbers a version's bytes have.
const parts = 7

// sizes are how many bytes each of them has: Seq, kind, Key, Day, Num, Den and Pick.
var sizes = [parts]int{8, 1, 1, 4, 8, 8, 1}

// encode puts a version's bytes behind others.
func (x Version) encode(b []byte) []byte {
	kind := ofFixing
	if x.Choice {
		kind = ofChoice
	}
	for i, n := range [parts]int{x.Seq, kind, x.Key, x.Day, x.Value.Num, x.Value.Den, x.Pick} {
		for bits := 8 * (sizes[i] - 1); bits >= 0; bits -= 8 {
			b = append(b, byte(n>>bits))
		}
	}
	return b
}

// number puts a number's bytes together, the highest one first; of eight it is below 0, if the highest bit is set.
func number(bytes ...byte) int {
	n := 0
	for _, x := range bytes {
		n = n<<8 | int(x)
	}
	return n
}

// decode is the version of Size bytes; ErrForm, if it is of another kind, or has what its kind does not have.
func decode(b []byte) (Version, api.Errno) {
	var n [parts]int
	for i, size := range sizes {
		n[i] = number(b[:size]...)
		b = b[size:]
	}
	kind, value, pick := n[1], api.Ratio{Num: n[4], Den: n[5]}, n[6]
	if kind > ofChoice || kind == ofFixing && pick != 0 || kind == ofChoice && value != (api.Ratio{}) {
		return Version{}, api.ErrForm
	}
	return Version{Seq: n[0], Choice: kind == ofChoice, Key: n[2], Day: n[3], Value: value, Pick: pick}, api.OK
}
