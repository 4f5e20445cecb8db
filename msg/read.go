package msg

import (
	"bothy/api"
	"bothy/ber"
	"bothy/fcode"
	"bothy/num"
)

// Nothing here tells an error: what is not as it should be is read as a zero value, and what stands where nothing
// should is left. Read holds what is put of all that against the bytes.

// partReader reads parts, one behind the other, by their tags alone.
type partReader struct {
	left []api.TLV
}

// isAt tells whether the next part has this tag.
func (r *partReader) isAt(tag int) bool {
	return len(r.left) > 0 && r.left[0].Tag == tag
}

// next tells the next part, the zero one at the end.
func (r *partReader) next() api.TLV {
	if len(r.left) == 0 {
		return api.TLV{}
	}
	one := r.left[0]
	r.left = r.left[1:]
	return one
}

// take tells the body of the next part, if it has this tag.
func (r *partReader) take(tag int) string {
	if !r.isAt(tag) {
		return ""
	}
	return r.next().Body
}

// reader reads what parts stand for; which part comes next is told by the one that it embeds.
type reader struct {
	partReader
}

// readerOf tells a reader of the parts of body.
func readerOf(body string) *reader {
	parts, _ := ber.All(body)
	return &reader{partReader{left: parts}}
}

// number tells the number of the next part, which has this tag.
func (r *reader) number(tag int) int {
	n, _ := num.Read(r.take(tag))
	return n
}

// truth tells the truth of the next part.
func (r *reader) truth() bool {
	b, _ := num.ReadBool(r.take(tagBool))
	return b
}

// text tells the text of the next part.
func (r *reader) text() string {
	return r.take(tagText)
}

// filter tells the filter of the next part.
func (r *reader) filter() api.Filter {
	one := r.next()
	// A length is as short as can be, so that these are the bytes that stood there.
	s, _ := ber.Put(one.Tag, one.Body)
	f, _ := fcode.Read(s)
	return f
}

// readEach tells what read makes of each part of body.
func readEach[T any](body string, read func(api.TLV) T) []T {
	parts, _ := ber.All(body)
	list := make([]T, len(parts))
	for i, part := range parts {
		list[i] = read(part)
	}
	return list
}

// readText tells the text that one is.
func readText(one api.TLV) string {
	return one.Body
}

// readAttr tells the attribute that one is.
func readAttr(one api.TLV) api.Attr {
	r := readerOf(one.Body)
	a := api.Attr{Type: r.text()}
	a.Values = readEach(r.take(tagSet), readText)
	return a
}

// readMod tells the modification that one is.
func readMod(one api.TLV) api.Mod {
	r := readerOf(one.Body)
	o := api.Mod{Op: r.number(tagEnum)}
	o.Attr = readAttr(r.next())
	return o
}

// readControl tells the control that one is.
func readControl(one api.TLV) api.Control {
	r := readerOf(one.Body)
	c := api.Control{OID: r.text()}
	c.Critical = r.truth()
	c.Value = r.text()
	return c
}

// readMessage tells the message with which s begins.
func readMessage(s string) api.Msg {
	one, _, _ := ber.Read(s)
	r := readerOf(one.Body)
	m := api.Msg{ID: r.number(tagNum)}
	op := r.next()
	m.Kind = op.Tag & kindBits
	readOperation(&m, op.Body)
	m.Controls = readEach(r.take(tagControls), readControl)
	return m
}

// readOperation puts into m what its kind has, as it stands in body.
func readOperation(m *api.Msg, body string) {
	switch m.Kind {
	case api.MsgUnbind:
		// Its tag says all.
	case api.MsgDelete:
		m.DN = body
	case api.MsgAbandon:
		m.Target, _ = num.Read(body)
	default:
		readerOf(body).operation(m)
	}
}

// operation puts into m what its kind, one whose operations have parts, has.
func (r *reader) operation(m *api.Msg) {
	switch m.Kind {
	case api.MsgBind:
		r.take(tagNum)
		m.DN = r.text()
		m.Password = r.take(tagPassword)
	case api.MsgSearch:
		r.search(m)
	case api.MsgEntry, api.MsgAdd:
		m.Entry.DN = r.text()
		m.Entry.Attrs = readEach(r.take(tagSeq), readAttr)
	case api.MsgModify:
		m.DN = r.text()
		m.Mods = readEach(r.take(tagSeq), readMod)
	case api.MsgRename:
		m.DN = r.text()
		m.RDN = r.text()
		m.DropOld = r.truth()
		m.Move = r.isAt(tagAbove)
		m.Above = r.take(tagAbove)
	case api.MsgCompare:
		m.DN = r.text()
		pair := readerOf(r.take(tagSeq))
		m.Attr = pair.text()
		m.Value = pair.text()
	default:
		m.Result.Code = r.number(tagEnum)
		m.Result.DN = r.text()
		m.Result.Text = r.text()
	}
}

// search puts into m what a search asks for.
func (r *reader) search(m *api.Msg) {
	m.DN = r.text()
	m.Scope = r.number(tagEnum)
	r.take(tagEnum)
	m.Limit = r.number(tagNum)
	r.take(tagNum)
	m.Types = r.truth()
	m.Filter = r.filter()
	m.Attrs = readEach(r.take(tagSeq), readText)
}
