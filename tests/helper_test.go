package tests

import (
	"math/rand"
	"testing"
)

// newRandom gives every run the same numbers, so that a failure can be seen again.
func newRandom() *rand.Rand { return rand.New(rand.NewSource(1)) }

// randomText returns size bytes out of an alphabet.
func randomText(r *rand.Rand, alphabet string, size int) string {
	b := make([]byte, size)
	for i := range b {
		b[i] = alphabet[r.Intn(len(alphabet))]
	}
	return string(b)
}

// allBytes returns a text of each byte once.
func allBytes() string {
	b := make([]byte, 256)
	for i := range b {
		b[i] = byte(i)
	}
	return string(b)
}

// allTexts calls visit for every text of at most size bytes out of an alphabet.
func allTexts(alphabet string, size int, visit func(string)) {
	var extend func(s string)
	extend = func(s string) {
		visit(s)
		if len(s) == size {
			return
		}
		for i := range len(alphabet) {
			extend(s + alphabet[i:i+1])
		}
	}
	extend("")
}

// shorten keeps the messages of failures with long texts readable.
func shorten(s string) string {
	if len(s) > 60 {
		return s[:60] + "..."
	}
	return s
}

func wantText(t *testing.T, name string, got string, ok bool, want string, wantOK bool) {
	t.Helper()
	if got != want || ok != wantOK {
		t.Errorf("%s = %q, %v; want %q, %v", name, shorten(got), ok, shorten(want), wantOK)
	}
}

func wantInt(t *testing.T, name string, got int, ok bool, want int, wantOK bool) {
	t.Helper()
	if got != want || ok != wantOK {
		t.Errorf("%s = %d, %v; want %d, %v", name, got, ok, want, wantOK)
	}
}
