package asm

import (
	"math"
	"strings"

	"gneiss/api"
	"gneiss/code"
)

// The kinds of lines.
const (
	mainLine = iota
	classLine
	fieldLine
	staticLine
	methodLine
	insLine
	handlerLine
	mapLine
	endLine
)

// Flags, and the greatest number that a class's or a method's make.
const (
	faceFlag    = 1
	finalFlag   = 2
	classFlags  = faceFlag | finalFlag
	staticFlag  = 1
	methodFlags = staticFlag
)

func flagIf(is bool, flag int) int {
	if is {
		return flag
	}
	return 0
}

// A span is the least and the most that a number may be.
type span struct {
	least int
	most  int
}

// A shape is what stands in a line behind its first word: a name, if it has one, then numbers, then a list of up to most
// more, if it has one. Of a line that is counted the last of the numbers is how many stand ahead of that list besides.
type shape struct {
	word      string
	kind      int
	op        int
	hasName   bool
	numbers   []span
	isCounted bool
	hasList   bool
	most      int
}

// shapes has those of all lines.
func shapes() []shape {
	number := span{math.MinInt32, math.MaxInt32}
	all := []shape{
		{word: "main", kind: mainLine, numbers: []span{number}},
		{word: "class", kind: classLine, hasName: true, numbers: []span{number, {0, classFlags}}, hasList: true,
			most: api.MaxFaces},
		{word: "field", kind: fieldLine, hasName: true, numbers: []span{number}},
		{word: "static", kind: staticLine, hasName: true, numbers: []span{number}},
		{word: "method", kind: methodLine, hasName: true,
			numbers: []span{{0, methodFlags}, number, {0, api.MaxLocals}, {0, api.MaxStack}}, hasList: true,
			most: api.MaxArgs},
		{word: "handler", kind: handlerLine, numbers: []span{number, number, number, number}},
		{word: "map", kind: mapLine, numbers: []span{number, {0, api.MaxLocals}}, isCounted: true, hasList: true,
			most: api.MaxStack},
		{word: "end", kind: endLine},
	}
	for op, word := range code.Names() {
		all = append(all, shape{word: word, kind: insLine, op: op, numbers: operands(op, number)})
	}
	return all
}

// operands is a number for each word that stands behind the first one in the text of an instruction.
func operands(op int, number span) []span {
	text, _ := code.Text(api.Ins{Op: op})
	var all []span
	for range strings.Count(text, " ") {
		all = append(all, number)
	}
	return all
}
