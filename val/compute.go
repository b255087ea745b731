package val

import "betrothal/api"

// Add returns the sum of two numbers.
func Add(a, b api.Val) (v api.Val, e api.Errno) {
	defer func() { e = raised(recover()) }()
	return Int(combine(a, b, func(x, y int64) int64 { return x + y })), api.OK
}

// Sub returns the difference of two numbers.
func Sub(a, b api.Val) (v api.Val, e api.Errno) {
	defer func() { e = raised(recover()) }()
	return Int(combine(a, b, func(x, y int64) int64 { return x - y })), api.OK
}

// Eq returns 1 if two values are equal.
func Eq(a, b api.Val) (v api.Val, e api.Errno) {
	defer func() { e = raised(recover()) }()
	demand(a, b)
	return answer(Same(a, b)), api.OK
}

// Less returns 1 if a number is less than another one.
func Less(a, b api.Val) (v api.Val, e api.Errno) {
	defer func() { e = raised(recover()) }()
	return answer(combine(a, b, func(x, y int64) bool { return x < y })), api.OK
}

// First returns the first value of a pair.
func First(v api.Val) (first api.Val, e api.Errno) {
	defer func() { e = raised(recover()) }()
	return half(v, 0), api.OK
}

// Second returns the second value of a pair.
func Second(v api.Val) (second api.Val, e api.Errno) {
	defer func() { e = raised(recover()) }()
	return half(v, 1), api.OK
}

// Truth reports whether a number is not 0.
func Truth(v api.Val) (is bool, e api.Errno) {
	defer func() { e = raised(recover()) }()
	demand(v)
	demandKind(api.ValInt, v)
	return v.N != 0, api.OK
}

// combine returns what is made of two numbers, and raises values that are none.
func combine[R any](a, b api.Val, made func(x, y int64) R) R {
	demand(a, b)
	demandKind(api.ValInt, a, b)
	return made(a.N, b.N)
}

// answer returns the number that says yes or no.
func answer(yes bool) api.Val {
	if yes {
		return Int(1)
	}
	return Int(0)
}

// half returns one of the two values of a pair, and raises a value that is none.
func half(v api.Val, at int) api.Val {
	demand(v)
	demandKind(api.ValPair, v)
	return Copy(v.L[at])
}
