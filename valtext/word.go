package valtext

import (
	"math"

	"betrothal/api"
)

// kinds is the number of Kinds, the one of no value among them.
const kinds = api.ValCond + 1

// words are the words of the Kinds; it is empty where a Kind has none. No word begins with another one.
var words = [kinds]string{
	api.ValUnit:   "unit",
	api.ValPair:   "pair",
	api.ValChan:   "chan",
	api.ValSend:   "send",
	api.ValRecv:   "recv",
	api.ValAlways: "always",
	api.ValNever:  "never",
	api.ValChoose: "choose",
	api.ValWrap:   "wrap",
	api.ValGuard:  "guard",
	api.ValNack:   "nack",
	api.ValCond:   "cond",
}

// Word returns the word of a Kind.
func Word(k api.ValKind) (string, bool) {
	if k < 0 || k >= kinds {
		return "", false
	}
	return words[k], words[k] != ""
}

// Kind returns the Kind of a word.
func Kind(word string) (api.ValKind, bool) {
	for k, known := range words {
		if known == word && known != "" {
			return api.ValKind(k), true
		}
	}
	return api.ValNone, false
}

// bare reports whether the word of a Kind is the whole text of its value.
func bare(k api.ValKind) bool { return k == api.ValUnit || k == api.ValNever }

// greatest returns the greatest number of a Kind, if its list begins with one.
func greatest(k api.ValKind) (uint64, bool) {
	switch k {
	case api.ValChan, api.ValCond:
		return math.MaxInt64, true
	case api.ValWrap, api.ValGuard, api.ValNack:
		return api.MaxFuns - 1, true
	}
	return 0, false
}
