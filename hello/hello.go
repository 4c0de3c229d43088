// Package hello: the frame by which each side tells the other one its word.
package hello

import (
	"slices"

	"spillway/api"
)

// wordSize is how many bytes a word has.
const wordSize = 8

// Frame that tells a word, the highest byte first.
func Frame(word uint64) api.Frame {
	b := make([]byte, 0, wordSize)
	for shift := 8 * (wordSize - 1); shift >= 0; shift -= 8 {
		b = append(b, byte(word>>shift))
	}
	return api.Frame{Kind: api.Hello, Data: b}
}

// Find the bytes of the first frame that tells a whole word, if there is one.
func Find(l []api.Frame) ([]byte, bool) {
	at := slices.IndexFunc(l, func(f api.Frame) bool {
		return f.Kind == api.Hello && f.Off == 0 && len(f.Data) == wordSize
	})
	if at < 0 {
		return nil, false
	}
	return slices.Clone(l[at].Data), true
}
