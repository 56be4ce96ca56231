package asm

import (
	"iter"
	"strings"

	"zoetrope/api"
	"zoetrope/decode"
)

// The letters that stand in a picture for a field's number.
const letters = "stdai"

// picture is what stands behind the name in a form's texts: a letter for each number, all else as it is.
func picture(form string) string {
	switch form {
	case "SH":
		return " $d,$t,a"
	case "SV":
		return " $d,$t,$s"
	case "JR", "MT":
		return " $s"
	case "JALR", "CL":
		return " $d,$s"
	case "R":
		return " $d,$s,$t"
	case "MF":
		return " $d"
	case "MD":
		return " $s,$t"
	case "BZ":
		return " $s,i"
	case "J":
		return " i"
	case "B2":
		return " $s,$t,i"
	case "I", "IU":
		return " $t,$s,i"
	case "LUI":
		return " $t,i"
	case "C0":
		return " $t,$d"
	case "M":
		return " $t,i($s)"
	}
	return "" // N and CO have no fields
}

// fields goes over an instruction's fields, in its text's order: the marks ahead of each one, and its number, to be read or set there; marks behind the last field come with no number.
func fields(i *api.Instr) iter.Seq2[string, *int] {
	return func(yield func(string, *int) bool) {
		left := picture(decode.Form(i.Op))
		for at := strings.IndexAny(left, letters); at >= 0; at = strings.IndexAny(left, letters) {
			if !yield(left[:at], place(i, left[at])) {
				return
			}
			left = left[at+1:]
		}
		if left != "" {
			yield(left, nil)
		}
	}
}

// place is where an instruction has the number of a letter.
func place(i *api.Instr, letter byte) *int {
	switch letter {
	case 's':
		return &i.Rs
	case 't':
		return &i.Rt
	case 'd':
		return &i.Rd
	case 'a':
		return &i.Sa
	}
	return &i.Imm
}
