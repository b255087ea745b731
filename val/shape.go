package val

import (
	"slices"

	"betrothal/api"
)

// shape says which number and which values a part of some Kind has. Of the values it sees no more than their Kinds: they are parts themselves.
type shape struct {
	number func(n int64) bool
	values func(l ...api.Val) bool
}

// kinds is the number of Kinds, the one of no value among them.
const kinds = api.ValCond + 1

// shapes returns the shape of each Kind.
func shapes() [kinds]shape {
	return [kinds]shape{
		api.ValUnit:   {zero, none},
		api.ValInt:    {whatever, none},
		api.ValPair:   {zero, two},
		api.ValChan:   {natural, none},
		api.ValSend:   {zero, channelAndOne},
		api.ValRecv:   {zero, channel},
		api.ValAlways: {zero, one},
		api.ValNever:  {zero, none},
		api.ValChoose: {zero, choices},
		api.ValWrap:   {function, eventAndArguments},
		api.ValGuard:  {function, arguments},
		api.ValNack:   {function, arguments},
		api.ValCond:   {natural, none},
	}
}

// fits reports whether a part has the shape of its Kind.
func (p part) fits(known [kinds]shape) bool {
	if p.Kind <= api.ValNone || p.Kind >= kinds {
		return false
	}
	s := known[p.Kind]
	return s.number(p.N) && s.values(p.L...)
}

// event reports whether the Kind of a value is one of those of events.
func event(v api.Val) bool {
	return v.Kind >= api.ValSend && v.Kind <= api.ValCond
}

func zero(n int64) bool { return n == 0 }

func whatever(int64) bool { return true }

func natural(n int64) bool { return n >= 0 }

func function(n int64) bool { return n >= 0 && n < api.MaxFuns }

func none(l ...api.Val) bool { return len(l) == 0 }

func one(l ...api.Val) bool { return len(l) == 1 }

func two(l ...api.Val) bool { return len(l) == 2 }

func channel(l ...api.Val) bool { return one(l...) && l[0].Kind == api.ValChan }

func channelAndOne(l ...api.Val) bool { return two(l...) && channel(l[:1:1]...) }

func choices(l ...api.Val) bool {
	return len(l) <= api.MaxChoose && !slices.ContainsFunc(l, func(v api.Val) bool { return !event(v) })
}

func arguments(l ...api.Val) bool { return len(l) <= api.MaxArgs }

func eventAndArguments(l ...api.Val) bool {
	n := len(l)
	return n > 0 && event(l[0]) && arguments(l[1:n:n]...)
}
