package valtext

import "betrothal/api"

// set is a set of Kinds, a bit for each.
type set uint16

const (
	anything set = 1<<kinds - 1<<api.ValUnit
	events   set = 1<<kinds - 1<<api.ValSend
	channels set = 1 << api.ValChan
)

func (s set) has(k api.ValKind) bool { return s>>k&1 == 1 }

// follower tells of a list that has some values already which Kinds the next one may have, and whether the list may end instead.
type follower func(had int) (next set, ends bool)

// followers returns the follower of each Kind whose word a list follows.
func followers() [kinds]follower {
	return [kinds]follower{
		api.ValPair:   exactly(anything, anything),
		api.ValChan:   exactly(),
		api.ValSend:   exactly(channels, anything),
		api.ValRecv:   exactly(channels),
		api.ValAlways: exactly(anything),
		api.ValChoose: atMost(api.MaxChoose, events),
		api.ValWrap:   after(events, atMost(api.MaxArgs, anything)),
		api.ValGuard:  atMost(api.MaxArgs, anything),
		api.ValNack:   atMost(api.MaxArgs, anything),
		api.ValCond:   exactly(),
	}
}

// exactly is the follower of lists with a value of each of the sets.
func exactly(l ...set) follower {
	return func(had int) (set, bool) {
		if had == len(l) {
			return 0, true
		}
		return l[had], false
	}
}

// atMost is the follower of lists with up to some number of values of a set.
func atMost(most int, one set) follower {
	return func(had int) (set, bool) {
		if had == most {
			return 0, true
		}
		return one, true
	}
}

// after is the follower of lists with a value of a set before those of another list.
func after(first set, rest follower) follower {
	return func(had int) (set, bool) {
		if had == 0 {
			return first, false
		}
		return rest(had - 1)
	}
}
