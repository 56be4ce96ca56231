package ir

import (
	"zoetrope/api"
	"zoetrope/decode"
)

// The forms of plain instructions that do not take $rs and $rt, in this order, and write rd.
const (
	formSH = "SH"
	formSV = "SV"
	formI  = "I"
	formIU = "IU"
)

// highHalf is by how many bits lui's number is shifted.
const highHalf = 16

// Translate are the operations of the plain instructions at the beginning of words.
func Translate(words []uint32) []api.Micro {
	var l []api.Micro
	for n, w := range words[:min(len(words), api.MaxBlock)] {
		m, plain := operation(w)
		if !plain {
			break
		}
		m.Count = n + 1
		l = append(l, m)
	}
	return l
}

// operation is that of a word, without a Count; and is the word a plain instruction?
func operation(w uint32) (api.Micro, bool) {
	i, err := decode.Decode(w)
	if err != api.OK || kindOf(i.Op) == api.MicroNone {
		return api.Micro{}, false
	}
	m := filled(i)
	if m.Dst == 0 {
		return api.Micro{}, true
	}
	m.Kind = kindOf(i.Op)
	return m, true
}

// kindOf is the kind that a plain instruction's operation has, unless it writes to register 0; MicroNone of an instruction that is not plain.
func kindOf(op int) int {
	switch op {
	case api.OpLui:
		return api.MicroSet
	case api.OpAddu, api.OpAddiu:
		return api.MicroAdd
	case api.OpSubu:
		return api.MicroSub
	case api.OpAnd, api.OpAndi:
		return api.MicroAnd
	case api.OpOr, api.OpOri:
		return api.MicroOr
	case api.OpXor, api.OpXori:
		return api.MicroXor
	case api.OpNor:
		return api.MicroNor
	case api.OpSlt, api.OpSlti:
		return api.MicroLess
	case api.OpSltu, api.OpSltiu:
		return api.MicroLessU
	case api.OpSll, api.OpSllv:
		return api.MicroLeft
	case api.OpSrl, api.OpSrlv:
		return api.MicroRight
	case api.OpSra, api.OpSrav:
		return api.MicroArith
	}
	return api.MicroNone
}

// filled has the registers and the number of a plain instruction.
func filled(i api.Instr) api.Micro {
	if i.Op == api.OpLui {
		return api.Micro{Dst: i.Rt, Imm: uint32(i.Imm) << highHalf}
	}
	switch decode.Form(i.Op) {
	case formSH:
		return api.Micro{Dst: i.Rd, A: i.Rt, B: api.Number, Imm: uint32(i.Sa)}
	case formSV:
		return api.Micro{Dst: i.Rd, A: i.Rt, B: i.Rs}
	case formI, formIU:
		return api.Micro{Dst: i.Rt, A: i.Rs, B: api.Number, Imm: uint32(i.Imm)}
	}
	return api.Micro{Dst: i.Rd, A: i.Rs, B: i.Rt}
}
