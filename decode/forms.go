package decode

// The lowest bits of a word's fields.
const (
	atMinor = 0
	atSa    = 6
	atRd    = 11
	atRt    = 16
	atRs    = 21
	atMajor = 26
)

// The bits of a word's fields.
const (
	five     = 1<<5 - 1
	rsBits   = five << atRs
	rtBits   = five << atRt
	rdBits   = five << atRd
	saBits   = five << atSa
	immBits  = 1<<16 - 1
	jumpBits = 1<<26 - 1
)

// coMark is what tells the form CO from C0, which has its number in rs.
const coMark = 16 << atRs

type form int

const (
	formNone form = iota // of no op
	formSH
	formSV
	formJR
	formJALR
	formR
	formN
	formMF
	formMT
	formMD
	formCL
	formBZ
	formJ
	formB2
	formI
	formIU
	formLUI
	formC0
	formCO
	formM
)

// layout tells what the bits of a form's words mean.
type layout struct {
	name      string
	regs, imm uint32 // the bits of the fields that an instruction has
	signed    bool   // has imm a sign?
	again     uint32 // the bits that tell rd a second time
	minorAt   int
	mark      uint32 // bits that are 1 in all words of the form
}

// open are the bits that aren't the same in all words of an op.
func (l layout) open() uint32 { return l.regs | l.imm | l.again }

func (f form) layout() layout {
	switch f {
	case formSH:
		return layout{name: "SH", regs: rdBits | rtBits | saBits}
	case formSV:
		return layout{name: "SV", regs: rdBits | rtBits | rsBits}
	case formJR:
		return layout{name: "JR", regs: rsBits}
	case formJALR:
		return layout{name: "JALR", regs: rdBits | rsBits}
	case formR:
		return layout{name: "R", regs: rdBits | rsBits | rtBits}
	case formN:
		return layout{name: "N"}
	case formMF:
		return layout{name: "MF", regs: rdBits}
	case formMT:
		return layout{name: "MT", regs: rsBits}
	case formMD:
		return layout{name: "MD", regs: rsBits | rtBits}
	case formCL:
		return layout{name: "CL", regs: rdBits | rsBits, again: rtBits}
	case formBZ:
		return layout{name: "BZ", regs: rsBits, imm: immBits, signed: true, minorAt: atRt}
	case formJ:
		return layout{name: "J", imm: jumpBits}
	case formB2:
		return layout{name: "B2", regs: rsBits | rtBits, imm: immBits, signed: true}
	case formI:
		return layout{name: "I", regs: rtBits | rsBits, imm: immBits, signed: true}
	case formIU:
		return layout{name: "IU", regs: rtBits | rsBits, imm: immBits}
	case formLUI:
		return layout{name: "LUI", regs: rtBits, imm: immBits}
	case formC0:
		return layout{name: "C0", regs: rtBits | rdBits, minorAt: atRs}
	case formCO:
		return layout{name: "CO", mark: coMark}
	case formM:
		return layout{name: "M", regs: rtBits | rsBits, imm: immBits, signed: true}
	}
	return layout{}
}
