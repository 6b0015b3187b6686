// Package op: the numbers of the machine's instructions, as chapter 14's table has them, for those that make, ask or run
// them.
package op

// The Ops.
const (
	Const = iota
	Move
	Load
	Keep
	In
	Out
	Not
	Neg
	Add
	Sub
	Mul
	Div
	Mod
	Eq
	Lt
	Le
	And
	Or
	Xor
	Unless
	Jump
)
