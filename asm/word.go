package asm

import (
	"outrider/api"
)

// The parts of an instruction that a line says, a letter each.
const (
	aPart      = 'a'
	bPart      = 'b'
	cPart      = 'c'
	intoPart   = 'r'
	numberPart = 'k'
	labelPart  = 'l'
)

// saying: how an instruction is said that has this Kind, and this Op, if it has one.
type saying struct {
	bare  api.Ins
	word  string
	parts string
}

// sayings is an array, so that going over it asks for no memory.
func sayings() [32]saying {
	return [...]saying{
		{api.Ins{Kind: api.InsHalt}, "halt", ""},
		{api.Ins{Kind: api.InsConst}, "const", "ak"},
		{api.Ins{Kind: api.InsMove}, "move", "ab"},
		{api.Ins{Kind: api.InsOne, Op: api.OpNeg}, "neg", "ab"},
		{api.Ins{Kind: api.InsOne, Op: api.OpCom}, "com", "ab"},
		{api.Ins{Kind: api.InsOne, Op: api.OpNot}, "not", "ab"},
		{api.Ins{Kind: api.InsTwo, Op: api.OpAdd}, "add", "abc"},
		{api.Ins{Kind: api.InsTwo, Op: api.OpSub}, "sub", "abc"},
		{api.Ins{Kind: api.InsTwo, Op: api.OpMul}, "mul", "abc"},
		{api.Ins{Kind: api.InsTwo, Op: api.OpDiv}, "div", "abc"},
		{api.Ins{Kind: api.InsTwo, Op: api.OpRem}, "rem", "abc"},
		{api.Ins{Kind: api.InsTwo, Op: api.OpAnd}, "and", "abc"},
		{api.Ins{Kind: api.InsTwo, Op: api.OpOr}, "or", "abc"},
		{api.Ins{Kind: api.InsTwo, Op: api.OpXor}, "xor", "abc"},
		{api.Ins{Kind: api.InsTwo, Op: api.OpShl}, "shl", "abc"},
		{api.Ins{Kind: api.InsTwo, Op: api.OpShr}, "shr", "abc"},
		{api.Ins{Kind: api.InsTwo, Op: api.OpEq}, "eq", "abc"},
		{api.Ins{Kind: api.InsTwo, Op: api.OpNe}, "ne", "abc"},
		{api.Ins{Kind: api.InsTwo, Op: api.OpLt}, "lt", "abc"},
		{api.Ins{Kind: api.InsTwo, Op: api.OpLe}, "le", "abc"},
		{api.Ins{Kind: api.InsTwo, Op: api.OpGt}, "gt", "abc"},
		{api.Ins{Kind: api.InsTwo, Op: api.OpGe}, "ge", "abc"},
		{api.Ins{Kind: api.InsTwo, Op: api.OpMin}, "min", "abc"},
		{api.Ins{Kind: api.InsTwo, Op: api.OpMax}, "max", "abc"},
		{api.Ins{Kind: api.InsLoad}, "load", "abk"},
		{api.Ins{Kind: api.InsStore}, "store", "abk"},
		{api.Ins{Kind: api.InsInto}, "into", "ar"},
		{api.Ins{Kind: api.InsEmit}, "emit", "a"},
		{api.Ins{Kind: api.InsJump}, "jump", "l"},
		{api.Ins{Kind: api.InsZero}, "zero", "al"},
		{api.Ins{Kind: api.InsOther}, "other", "al"},
		{api.Ins{Kind: api.InsFail}, "fail", "a"},
	}
}

// bare: the instruction without what its word doesn't tell. A kind that has no operation has one word, whatever stands in its Op.
func bare(x api.Ins) api.Ins {
	if x.Kind == api.InsOne || x.Kind == api.InsTwo {
		return api.Ins{Kind: x.Kind, Op: x.Op}
	}
	return api.Ins{Kind: x.Kind}
}

// Word: the word of an instruction, and the letters of what stands behind it.
func Word(x api.Ins) (string, string) {
	for _, s := range sayings() {
		if s.bare == bare(x) {
			return s.word, s.parts
		}
	}
	return "", ""
}

// meaning: the saying of a word, and true; false, if it is none.
func meaning(word string) (saying, bool) {
	for _, s := range sayings() {
		if s.word == word {
			return s, true
		}
	}
	return saying{}, false
}
