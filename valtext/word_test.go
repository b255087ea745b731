package valtext_test

import (
	"math"
	"testing"

	"betrothal/api"
	"betrothal/valtext"
)

// words are all words with their Kinds, as the chapter lists them.
var words = map[string]api.ValKind{
	"unit": 1, "pair": 3, "chan": 4, "send": 5, "recv": 6, "always": 7, "never": 8, "choose": 9, "wrap": 10, "guard": 11, "nack": 12, "cond": 13,
}

// P5.3: Word and Kind of each word.
func TestWords(t *testing.T) {
	for word, k := range words {
		if got, is := valtext.Word(k); got != word || !is {
			t.Errorf("Word(%d) = %q, %v", k, got, is)
		}
		if got, is := valtext.Kind(word); got != k || !is {
			t.Errorf("Kind(%s) = %d, %v", word, got, is)
		}
	}
}

// P5.3: numbers that have no word.
func TestWordNone(t *testing.T) {
	for _, k := range []api.ValKind{api.ValNone, api.ValInt, 14, 15, 100, -1, -2, math.MaxInt, math.MinInt, 1 << 32, 1<<32 + 1} {
		if word, is := valtext.Word(k); word != "" || is {
			t.Errorf("Word(%d) = %q, %v", k, word, is)
		}
	}
}

// P5.3: strings that are not words.
func TestKindNone(t *testing.T) {
	for _, word := range []string{"", "int", "none", "Unit", "UNIT", "unit ", " unit", "unit\n", "uni", "units", "choose()", "chan N", "chan(", "5", "\x00", "\xff", "never\x00", "ch"} {
		if k, is := valtext.Kind(word); k != api.ValNone || is {
			t.Errorf("Kind(%q) = %d, %v", word, k, is)
		}
	}
}
