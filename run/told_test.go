package run

import (
	"fmt"
	"testing"

	"choirloft/api"
)

// What a layer wraps no line of today's can bring about, but P3 lets it.
func TestWhatIsWrongIsToldByItsNameThoughItBeWrapped(t *testing.T) {
	for wrong := api.ErrRange; wrong <= api.ErrSum; wrong++ {
		for _, err := range []error{wrong, fmt.Errorf("a layer: %w", wrong)} {
			if got := told("5", err); got != wrong.Error() {
				t.Errorf("told of %v = %q", err, got)
			}
		}
	}
	for _, err := range []error{errBad, fmt.Errorf("a word: %w", errBad)} {
		if got := told("5", err); got != "bad" {
			t.Errorf("told of %v = %q", err, got)
		}
	}
	if got := told("5", nil); got != "5" {
		t.Errorf("told of nil = %q", got)
	}
}
