package text

import (
	"iter"
	"strings"
)

const (
	// marks are tokens by themselves.
	marks = "(),"
	// gaps stand between tokens only.
	gaps = " \n"
)

// reader parts a text into tokens.
type reader struct {
	text string
}

// tokens goes through all tokens: where each begins, and it.
func (r *reader) tokens() iter.Seq2[int, string] {
	return func(yield func(int, string) bool) {
		at := r.skip(0)
		for at < len(r.text) {
			end := r.end(at)
			if !yield(at, r.text[at:end]) {
				return
			}
			at = r.skip(end)
		}
	}
}

// skip is the first place from at on that is in no gap.
func (r *reader) skip(at int) int {
	for at < len(r.text) && among(gaps, r.text[at]) {
		at++
	}
	return at
}

// end is the place behind the token that begins at a place.
func (r *reader) end(at int) int {
	if among(marks, r.text[at]) {
		return at + 1
	}
	for at < len(r.text) && !among(marks+gaps, r.text[at]) {
		at++
	}
	return at
}

// among tells whether a byte is one of a set.
func among(set string, c byte) bool {
	return strings.IndexByte(set, c) >= 0
}
