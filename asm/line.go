package asm

import (
	"strings"

	"outrider/api"
	"outrider/num"
)

const (
	lineEnd    = "\n"
	labelEnd   = ":"
	remark     = "#"
	blank      = " "
	inRegister = "r" // ahead of a register's number
	atPlace    = "l" // ahead of a place, in the labels of a text
)

// listed: an instruction that may be, without the end of its line.
func listed(x api.Ins) string {
	word, parts := Word(x)
	said := []string{word}
	for _, part := range parts {
		said = append(said, piece(x, part))
	}
	return strings.Join(said, blank)
}

func piece(x api.Ins, part rune) string {
	switch part {
	case aPart:
		return inRegister + num.Text(int64(x.A))
	case bPart:
		return inRegister + num.Text(int64(x.B))
	case cPart:
		return inRegister + num.Text(int64(x.C))
	case intoPart:
		return num.Text(int64(x.C))
	case labelPart:
		return labelOf(x.K)
	}
	return num.Text(x.K)
}

func labelOf(place int64) string {
	return atPlace + num.Text(place)
}

// targets: of each place of a text that may be, whether some target goes there.
func targets(l []api.Ins) []bool {
	aimed := make([]bool, len(l))
	for _, x := range l {
		if _, parts := Word(x); strings.ContainsRune(parts, labelPart) {
			aimed[x.K] = true
		}
	}
	return aimed
}
