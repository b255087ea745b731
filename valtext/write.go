package valtext

import (
	"strconv"

	"betrothal/api"
)

// write appends the text of a valid value.
func write(to []byte, v api.Val) []byte {
	if v.Kind == api.ValInt {
		return strconv.AppendInt(to, v.N, 10)
	}
	to = append(to, words[v.Kind]...)
	if bare(v.Kind) {
		return to
	}
	to = append(to, '(')
	if _, numbered := greatest(v.Kind); numbered {
		to = strconv.AppendInt(to, v.N, 10)
		if len(v.L) > 0 {
			to = append(to, ',')
		}
	}
	to = join(to, ",", write, v.L...)
	return append(to, ')')
}

// writeLine appends the text of a valid value as a line.
func writeLine(to []byte, v api.Val) []byte {
	return append(write(to, v), '\n')
}

// join appends the texts of items, with a separator between two of them. All is appended to one text, because a value that is deep would be copied at each depth otherwise.
func join[I any](to []byte, separator string, add func(to []byte, item I) []byte, items ...I) []byte {
	for i, item := range items {
		if i > 0 {
			to = append(to, separator...)
		}
		to = add(to, item)
	}
	return to
}
