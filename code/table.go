package code

import (
	"gneiss/api"
)

// A row is an instruction's word, and what its operands name.
type row struct {
	word     string
	operands operands
}

// table has each instruction at its number.
func table() [api.InsCollect + 1]row {
	return [api.InsCollect + 1]row{
		api.InsNop:         {"nop", none{}},
		api.InsInt:         {"int", one[int32]{number}},
		api.InsNull:        {"null", none{}},
		api.InsLoad:        {"load", one[int]{local}},
		api.InsStore:       {"store", one[int]{local}},
		api.InsPop:         {"pop", none{}},
		api.InsDup:         {"dup", none{}},
		api.InsSwap:        {"swap", none{}},
		api.InsArith:       {"arith", one[string]{operation}},
		api.InsGoto:        {"goto", one[api.Ins]{target}},
		api.InsIfZero:      {"ifzero", one[api.Ins]{target}},
		api.InsIfLess:      {"ifless", one[api.Ins]{target}},
		api.InsIfSame:      {"ifsame", one[api.Ins]{target}},
		api.InsIfNull:      {"ifnull", one[api.Ins]{target}},
		api.InsNew:         {"new", one[api.Class]{madeClass}},
		api.InsGetField:    {"getfield", two[api.Class, api.Field]{ownClass, fieldOf}},
		api.InsPutField:    {"putfield", two[api.Class, api.Field]{ownClass, fieldOf}},
		api.InsGetStatic:   {"getstatic", two[api.Class, api.Field]{ownClass, staticOf}},
		api.InsPutStatic:   {"putstatic", two[api.Class, api.Field]{ownClass, staticOf}},
		api.InsNewInts:     {"newints", none{}},
		api.InsNewRefs:     {"newrefs", none{}},
		api.InsLength:      {"length", none{}},
		api.InsGetInt:      {"getint", none{}},
		api.InsPutInt:      {"putint", none{}},
		api.InsGetRef:      {"getref", none{}},
		api.InsPutRef:      {"putref", none{}},
		api.InsCallStatic:  {"callstatic", two[api.Class, api.Method]{ownClass, staticMethodOf}},
		api.InsCallVirtual: {"callvirtual", two[api.Class, api.Method]{calledClass, virtualMethodOf}},
		api.InsCallFace:    {"callface", two[api.Class, api.Method]{ownFace, virtualMethodOf}},
		api.InsReturn:      {"return", none{}},
		api.InsGiveInt:     {"giveint", none{}},
		api.InsGiveRef:     {"giveref", none{}},
		api.InsThrow:       {"throw", none{}},
		api.InsIs:          {"is", one[api.Class]{anyClass}},
		api.InsCast:        {"cast", one[api.Class]{anyClass}},
		api.InsEnter:       {"enter", none{}},
		api.InsLeave:       {"leave", none{}},
		api.InsWait:        {"wait", none{}},
		api.InsNotify:      {"notify", none{}},
		api.InsNotifyAll:   {"notifyall", none{}},
		api.InsStart:       {"start", none{}},
		api.InsJoin:        {"join", none{}},
		api.InsPrint:       {"print", none{}},
		api.InsRead:        {"read", none{}},
		api.InsMakeWeak:    {"makeweak", none{}},
		api.InsDeref:       {"deref", none{}},
		api.InsCollect:     {"collect", none{}},
	}
}
