package asm

import (
	"slices"
	"strconv"
	"strings"

	"gneiss/api"
	"gneiss/class"
	"gneiss/code"
	"gneiss/fault"
)

// An entry is what a line's words come to; counted are those numbers of a line of which it tells how many there are.
type entry struct {
	line    int
	op      int
	name    string
	numbers []int
	counted []int
	list    []int
}

func firstWord(line string) string {
	word, _, _ := strings.Cut(line, " ")
	return word
}

// apart takes a line's words apart, by the shape of its first one.
func apart(line int, text string, s shape) entry {
	e := entry{line: line, op: s.op}
	words := strings.Split(text, " ")[1:]
	e.checkWords(words, s)
	if s.hasName {
		e.name, words = e.readName(words[0]), words[1:]
	}
	for i, limits := range s.numbers {
		e.numbers = append(e.numbers, e.readWithin(words[i], limits))
	}
	for _, word := range words[len(s.numbers):] {
		e.list = append(e.list, e.readNumber(word))
	}
	if s.isCounted {
		count := e.numbers[len(e.numbers)-1]
		e.counted, e.list = slices.Clone(e.list[:count]), slices.Clone(e.list[count:])
	}
	if len(e.list) > s.most {
		e.throw(api.ErrAsmForm)
	}
	return e
}

// together is the line that apart takes apart into e.
func together(e entry, s shape) string {
	words := []string{s.word}
	if s.hasName {
		words = append(words, e.name)
	}
	for _, number := range slices.Concat(e.numbers, e.counted, e.list) {
		words = append(words, strconv.Itoa(number))
	}
	return strings.Join(words, " ")
}

func (e entry) throw(code api.Errno) {
	fault.Throw(e.line, code)
}

// checkWords throws if there are not as many words as there must be; an empty one stands between two blanks.
func (e entry) checkWords(words []string, s shape) {
	least := len(s.numbers)
	if s.hasName {
		least++
	}
	if slices.Contains(words, "") || len(words) < least || len(words) > least && !s.hasList {
		e.throw(api.ErrAsmWord)
	}
	if s.isCounted && e.readNumber(words[least-1]) > len(words)-least {
		e.throw(api.ErrAsmWord)
	}
}

// readName answers memory of its own, since what is parsed is not kept.
func (e entry) readName(word string) string {
	if !class.IsName(word) {
		e.throw(api.ErrAsmName)
	}
	return strings.Clone(word)
}

func (e entry) readNumber(word string) int {
	number, err := strconv.ParseInt(word, 10, 32)
	// What is read may stand otherwise than it is written: with a sign or a 0 ahead that it needs not.
	if err != nil || strconv.FormatInt(number, 10) != word {
		e.throw(api.ErrAsmForm)
	}
	return int(number)
}

func (e entry) readWithin(word string, limits span) int {
	number := e.readNumber(word)
	if number < limits.least || number > limits.most {
		e.throw(api.ErrAsmForm)
	}
	return number
}

// arith takes a line of arith apart, whose operation is a word.
func arith(line int, text string) entry {
	i, found := code.Parse(text)
	if found != api.OK {
		fault.Throw(line, api.ErrAsmWord)
	}
	return entry{line: line, op: i.Op, numbers: []int{i.A}}
}
