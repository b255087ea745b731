package fun

import "betrothal/api"

// shape says which number and how many children a node of some Op has. A number may depend on how many variables there are at the node.
type shape struct {
	number   func(n int64, variables int) bool
	children func(many int) bool
}

// ops is the number of Ops, the one of no node among them.
const ops = api.OpSync + 1

// shapes returns the shape of each Op.
func shapes() [ops]shape {
	none, one, two, three := count(0), count(1), count(2), count(3)
	arguments := count(0, api.MaxArgs)
	return [ops]shape{
		api.OpInt:    {whatever, none},
		api.OpUnit:   {zero, none},
		api.OpVar:    {variable, none},
		api.OpLet:    {zero, two},
		api.OpIf:     {zero, three},
		api.OpAdd:    {zero, two},
		api.OpSub:    {zero, two},
		api.OpEq:     {zero, two},
		api.OpLess:   {zero, two},
		api.OpPair:   {zero, two},
		api.OpFirst:  {zero, one},
		api.OpSecond: {zero, one},
		api.OpCall:   {function, arguments},
		api.OpSpawn:  {function, arguments},
		api.OpChan:   {zero, none},
		api.OpSend:   {zero, two},
		api.OpRecv:   {zero, one},
		api.OpAlways: {zero, one},
		api.OpNever:  {zero, none},
		api.OpChoose: {zero, count(0, api.MaxChoose)},
		api.OpWrap:   {function, count(1, 1+api.MaxArgs)},
		api.OpGuard:  {function, arguments},
		api.OpNack:   {function, arguments},
		api.OpSync:   {zero, one},
	}
}

// names reports whether the number of nodes of an Op is that of a function.
func names(op api.Op) bool {
	switch op {
	case api.OpCall, api.OpSpawn, api.OpWrap, api.OpGuard, api.OpNack:
		return true
	}
	return false
}

func zero(n int64, _ int) bool { return n == 0 }

func whatever(int64, int) bool { return true }

func variable(n int64, variables int) bool { return n >= 0 && n < int64(variables) }

func function(n int64, _ int) bool { return n >= 0 && n < api.MaxFuns }

// count returns what reports whether a number of children lies within bounds.
func count(bounds ...int) func(many int) bool {
	return func(many int) bool { return within(many, bounds...) }
}

// within reports whether a number lies within bounds: the least and the greatest number, or the only one.
func within(n int, bounds ...int) bool {
	return n >= bounds[0] && n <= bounds[len(bounds)-1]
}
