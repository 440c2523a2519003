package class

import (
	"gneiss/api"
)

// Each part is read by a statement of its own, so that the row of the statements is the row of the bytes.

func (r *reader) program() api.Program {
	var p api.Program
	p.Main = r.num()
	p.Classes = list(r, api.MaxClasses, (*reader).class)
	return p
}

func (r *reader) class() api.Class {
	var c api.Class
	c.Name = r.name()
	flags := r.upTo(classFlags, api.ErrClassForm)
	c.Face = flags&faceFlag != 0
	c.Final = flags&finalFlag != 0
	c.Super = r.num()
	c.Faces = list(r, api.MaxFaces, (*reader).num)
	c.Fields = list(r, api.MaxFields, (*reader).field)
	c.Statics = list(r, api.MaxFields, (*reader).field)
	c.Methods = list(r, api.MaxMethods, (*reader).method)
	return c
}

func (r *reader) field() api.Field {
	var f api.Field
	f.Name = r.name()
	f.Type = r.num()
	return f
}

func (r *reader) method() api.Method {
	var m api.Method
	m.Name = r.name()
	flags := r.upTo(methodFlags, api.ErrClassForm)
	m.Static = flags&staticFlag != 0
	m.Args = list(r, api.MaxArgs, (*reader).num)
	m.Ret = r.num()
	m.Locals = r.upTo(api.MaxLocals, api.ErrClassForm)
	m.Stack = r.upTo(api.MaxStack, api.ErrClassForm)
	m.Code = list(r, api.MaxCode, (*reader).ins)
	m.Table = list(r, api.MaxTable, (*reader).handler)
	m.Maps = list(r, api.MaxMaps, (*reader).stackMap)
	return m
}

func (r *reader) ins() api.Ins {
	var i api.Ins
	i.Op = r.num()
	i.A = r.num()
	i.B = r.num()
	return i
}

func (r *reader) handler() api.Handler {
	var h api.Handler
	h.From = r.num()
	h.To = r.num()
	h.At = r.num()
	h.Class = r.num()
	return h
}

func (r *reader) stackMap() api.Map {
	var m api.Map
	m.At = r.num()
	m.Locals = list(r, api.MaxLocals, (*reader).num)
	m.Stack = list(r, api.MaxStack, (*reader).num)
	return m
}
