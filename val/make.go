package val

import "betrothal/api"

// Make returns a value of a Kind.
func Make(k api.ValKind, n int64, l ...api.Val) (v api.Val, e api.Errno) {
	defer func() { e = raised(recover()) }()
	made := api.Val{Kind: k, N: n, L: l}
	demand(made)
	return Copy(made), api.OK
}

// Unit returns the unit value.
func Unit() api.Val { return api.Val{Kind: api.ValUnit} }

// Int returns a number.
func Int(n int64) api.Val { return api.Val{Kind: api.ValInt, N: n} }

// Never returns the event that never occurs.
func Never() api.Val { return api.Val{Kind: api.ValNever} }

// Pair returns a pair.
func Pair(a, b api.Val) (api.Val, api.Errno) { return Make(api.ValPair, 0, a, b) }

// Chan returns a channel.
func Chan(n int64) (api.Val, api.Errno) { return Make(api.ValChan, n) }

// Cond returns a condition.
func Cond(n int64) (api.Val, api.Errno) { return Make(api.ValCond, n) }

// Send returns the event of sending a value.
func Send(c, v api.Val) (api.Val, api.Errno) { return Make(api.ValSend, 0, c, v) }

// Recv returns the event of receiving a value.
func Recv(c api.Val) (api.Val, api.Errno) { return Make(api.ValRecv, 0, c) }

// Always returns the event that always occurs.
func Always(v api.Val) (api.Val, api.Errno) { return Make(api.ValAlways, 0, v) }

// Choose returns a choice of events.
func Choose(l ...api.Val) (api.Val, api.Errno) { return Make(api.ValChoose, 0, l...) }

// Wrap returns an event with a function applied to its result.
func Wrap(fun int64, v api.Val, args ...api.Val) (api.Val, api.Errno) {
	return Make(api.ValWrap, fun, append([]api.Val{v}, args...)...)
}

// Guard returns an event that a function makes.
func Guard(fun int64, args ...api.Val) (api.Val, api.Errno) {
	return Make(api.ValGuard, fun, args...)
}

// Nack returns an event that a function makes from a condition.
func Nack(fun int64, args ...api.Val) (api.Val, api.Errno) {
	return Make(api.ValNack, fun, args...)
}
