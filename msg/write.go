package msg

import (
	"bothy/api"
	"bothy/ber"
	"bothy/fcode"
	"bothy/num"
)

// writer gathers the parts of a body, one behind the other, as long as they are no more than a body may have.
type writer struct {
	bytes []byte
	long  bool
}

// raw puts s as it stands.
func (w *writer) raw(s string) {
	// What is too long already is not gathered to its end: lists may share memory, and be more together than memory holds.
	if w.long || len(s) > api.MaxBody-len(w.bytes) {
		w.long = true
		return
	}
	w.bytes = append(w.bytes, s...)
}

// part puts a part of this tag.
func (w *writer) part(tag int, body string) {
	if w.long {
		return
	}
	s, err := ber.Put(tag, body)
	w.long = err != api.OK
	w.raw(s)
}

// within puts a part of this tag whose body is what fill gathers.
func (w *writer) within(tag int, fill func(*writer)) {
	if w.long {
		return
	}
	var in writer
	fill(&in)
	w.long = in.long
	w.part(tag, string(in.bytes))
}

// writeEach puts a part of this tag whose body is what write puts of each of list.
func writeEach[T any](w *writer, tag int, list []T, write func(*writer, T)) {
	w.within(tag, func(in *writer) {
		for _, one := range list {
			write(in, one)
		}
	})
}

// number puts n, which num can put, as a part of this tag.
func (w *writer) number(tag, n int) {
	body, _ := num.Put(n)
	w.part(tag, body)
}

// truth puts b as a part.
func (w *writer) truth(b bool) {
	w.part(tagBool, num.Bool(b))
}

// text puts s as a part.
func (w *writer) text(s string) {
	w.part(tagText, s)
}

// attr puts a as a part.
func (w *writer) attr(a api.Attr) {
	w.within(tagSeq, func(in *writer) {
		in.text(a.Type)
		writeEach(in, tagSet, a.Values, (*writer).text)
	})
}

// mod puts o as a part.
func (w *writer) mod(o api.Mod) {
	w.within(tagSeq, func(in *writer) {
		in.number(tagEnum, o.Op)
		in.attr(o.Attr)
	})
}

// control puts c as a part.
func (w *writer) control(c api.Control) {
	w.within(tagSeq, func(in *writer) {
		in.text(c.OID)
		if c.Critical {
			in.truth(c.Critical)
		}
		in.text(c.Value)
	})
}

// operation puts what stands behind the tag of m's operation; nothing may be wrong with m but that it is too long.
func (w *writer) operation(m api.Msg) {
	switch m.Kind {
	case api.MsgBind:
		w.number(tagNum, version)
		w.text(m.DN)
		w.part(tagPassword, m.Password)
	case api.MsgUnbind:
		// Its tag says all.
	case api.MsgSearch:
		w.search(m)
	case api.MsgEntry, api.MsgAdd:
		w.text(m.Entry.DN)
		writeEach(w, tagSeq, m.Entry.Attrs, (*writer).attr)
	case api.MsgModify:
		w.text(m.DN)
		writeEach(w, tagSeq, m.Mods, (*writer).mod)
	case api.MsgDelete:
		w.raw(m.DN)
	case api.MsgRename:
		w.rename(m)
	case api.MsgCompare:
		w.text(m.DN)
		writeEach(w, tagSeq, []string{m.Attr, m.Value}, (*writer).text)
	case api.MsgAbandon:
		target, _ := num.Put(m.Target)
		w.raw(target)
	default:
		w.result(m)
	}
}

// search puts what a search asks for.
func (w *writer) search(m api.Msg) {
	w.text(m.DN)
	w.number(tagEnum, m.Scope)
	// Names that stand for others, and a limit of time: there are none here.
	w.number(tagEnum, 0)
	w.number(tagNum, m.Limit)
	w.number(tagNum, 0)
	w.truth(m.Types)
	asked, _ := fcode.Put(m.Filter)
	w.raw(asked)
	writeEach(w, tagSeq, m.Attrs, (*writer).text)
}

// rename puts what a rename asks for.
func (w *writer) rename(m api.Msg) {
	w.text(m.DN)
	w.text(m.RDN)
	w.truth(m.DropOld)
	if m.Move {
		w.part(tagAbove, m.Above)
	}
}

// result puts the result of m, and of a notice which one it is.
func (w *writer) result(m api.Msg) {
	w.number(tagEnum, m.Result.Code)
	w.text(m.Result.DN)
	w.text(m.Result.Text)
	if m.Kind == api.MsgNotice {
		w.part(tagNotice, noticeName)
	}
}
