package decode

import "zoetrope/api"

// row is an op: its name, its form, and the numbers that tell it in a word.
type row struct {
	name         string
	form         form
	major, minor uint32
}

// fixed are the bits that all words of the op have.
func (r row) fixed(l layout) uint32 {
	return r.major<<atMajor | r.minor<<l.minorAt | l.mark
}

// The ops stand in two tables: those of the major 0, and behind them the others, from firstOther on.
const firstOther = api.OpMul

var zeros = [firstOther]row{
	api.OpSll:     {"sll", formSH, 0, 0},
	api.OpSrl:     {"srl", formSH, 0, 2},
	api.OpSra:     {"sra", formSH, 0, 3},
	api.OpSllv:    {"sllv", formSV, 0, 4},
	api.OpSrlv:    {"srlv", formSV, 0, 6},
	api.OpSrav:    {"srav", formSV, 0, 7},
	api.OpJr:      {"jr", formJR, 0, 8},
	api.OpJalr:    {"jalr", formJALR, 0, 9},
	api.OpMovz:    {"movz", formR, 0, 10},
	api.OpMovn:    {"movn", formR, 0, 11},
	api.OpSyscall: {"syscall", formN, 0, 12},
	api.OpBreak:   {"break", formN, 0, 13},
	api.OpMfhi:    {"mfhi", formMF, 0, 16},
	api.OpMthi:    {"mthi", formMT, 0, 17},
	api.OpMflo:    {"mflo", formMF, 0, 18},
	api.OpMtlo:    {"mtlo", formMT, 0, 19},
	api.OpMult:    {"mult", formMD, 0, 24},
	api.OpMultu:   {"multu", formMD, 0, 25},
	api.OpDiv:     {"div", formMD, 0, 26},
	api.OpDivu:    {"divu", formMD, 0, 27},
	api.OpAdd:     {"add", formR, 0, 32},
	api.OpAddu:    {"addu", formR, 0, 33},
	api.OpSub:     {"sub", formR, 0, 34},
	api.OpSubu:    {"subu", formR, 0, 35},
	api.OpAnd:     {"and", formR, 0, 36},
	api.OpOr:      {"or", formR, 0, 37},
	api.OpXor:     {"xor", formR, 0, 38},
	api.OpNor:     {"nor", formR, 0, 39},
	api.OpSlt:     {"slt", formR, 0, 42},
	api.OpSltu:    {"sltu", formR, 0, 43},
	api.OpTeq:     {"teq", formMD, 0, 52},
	api.OpTne:     {"tne", formMD, 0, 54},
}

var others = [api.Ops - firstOther]row{
	api.OpMul - firstOther:    {"mul", formR, 28, 2},
	api.OpClz - firstOther:    {"clz", formCL, 28, 32},
	api.OpClo - firstOther:    {"clo", formCL, 28, 33},
	api.OpBltz - firstOther:   {"bltz", formBZ, 1, 0},
	api.OpBgez - firstOther:   {"bgez", formBZ, 1, 1},
	api.OpBltzal - firstOther: {"bltzal", formBZ, 1, 16},
	api.OpBgezal - firstOther: {"bgezal", formBZ, 1, 17},
	api.OpJ - firstOther:      {"j", formJ, 2, 0},
	api.OpJal - firstOther:    {"jal", formJ, 3, 0},
	api.OpBeq - firstOther:    {"beq", formB2, 4, 0},
	api.OpBne - firstOther:    {"bne", formB2, 5, 0},
	api.OpBlez - firstOther:   {"blez", formBZ, 6, 0},
	api.OpBgtz - firstOther:   {"bgtz", formBZ, 7, 0},
	api.OpAddi - firstOther:   {"addi", formI, 8, 0},
	api.OpAddiu - firstOther:  {"addiu", formI, 9, 0},
	api.OpSlti - firstOther:   {"slti", formI, 10, 0},
	api.OpSltiu - firstOther:  {"sltiu", formI, 11, 0},
	api.OpAndi - firstOther:   {"andi", formIU, 12, 0},
	api.OpOri - firstOther:    {"ori", formIU, 13, 0},
	api.OpXori - firstOther:   {"xori", formIU, 14, 0},
	api.OpLui - firstOther:    {"lui", formLUI, 15, 0},
	api.OpMfc0 - firstOther:   {"mfc0", formC0, 16, 0},
	api.OpMtc0 - firstOther:   {"mtc0", formC0, 16, 4},
	api.OpTlbr - firstOther:   {"tlbr", formCO, 16, 1},
	api.OpTlbwi - firstOther:  {"tlbwi", formCO, 16, 2},
	api.OpTlbp - firstOther:   {"tlbp", formCO, 16, 8},
	api.OpEret - firstOther:   {"eret", formCO, 16, 24},
	api.OpLb - firstOther:     {"lb", formM, 32, 0},
	api.OpLh - firstOther:     {"lh", formM, 33, 0},
	api.OpLw - firstOther:     {"lw", formM, 35, 0},
	api.OpLbu - firstOther:    {"lbu", formM, 36, 0},
	api.OpLhu - firstOther:    {"lhu", formM, 37, 0},
	api.OpSb - firstOther:     {"sb", formM, 40, 0},
	api.OpSh - firstOther:     {"sh", formM, 41, 0},
	api.OpSw - firstOther:     {"sw", formM, 43, 0},
	api.OpLl - firstOther:     {"ll", formM, 48, 0},
	api.OpSc - firstOther:     {"sc", formM, 56, 0},
}

// rowOf is the row without a name and a form, if there is no such op.
func rowOf(op int) row {
	switch {
	case op < 0 || op >= api.Ops:
		return row{}
	case op < firstOther:
		return zeros[op]
	}
	return others[op-firstOther]
}
