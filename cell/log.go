package cell

import (
	"iter"

	"betrothal/api"
)

// log holds the last accesses: the one with number i lies at i modulo MaxLog.
type log struct {
	count uint64
	last  []api.Access
}

// note adds an access. Until the slice is full, its length is the place of the next one.
func (l *log) note(x api.Access) {
	if len(l.last) < api.MaxLog {
		l.last = append(l.last, x)
	} else {
		l.last[l.count%api.MaxLog] = x
	}
	l.count++
}

// snapshot returns a log that later accesses do not change.
func (l *log) snapshot() log {
	return log{count: l.count, last: append([]api.Access(nil), l.last...)}
}

// accesses iterates over the logged accesses, oldest first.
func (l *log) accesses() iter.Seq2[uint64, api.Access] {
	return func(yield func(uint64, api.Access) bool) {
		oldest := l.count - uint64(len(l.last))
		for number := oldest; number < l.count; number++ {
			if !yield(number, l.last[number%api.MaxLog]) {
				return
			}
		}
	}
}
