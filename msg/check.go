package msg

import (
	"slices"

	"bothy/api"
	"bothy/control"
	"bothy/fcode"
)

// mostControls is how many controls a message has at most.
const mostControls = 16

// spot is where a list of filters stands in memory.
type spot struct {
	first *api.Filter
	many  int
}

// Check tells what is wrong with m.
func Check(m api.Msg) api.Errno {
	if !isKind(m.Kind) {
		return api.ErrArg
	}
	if !isInRange(m) {
		return api.ErrRange
	}
	if m.Kind == api.MsgSearch {
		if _, err := fcode.Put(m.Filter); err != api.OK {
			return err
		}
	}
	if hasMany(m) || hasLong(m) {
		return api.ErrLong
	}
	for _, c := range m.Controls {
		if err := control.Check(c); err != api.OK {
			return err
		}
	}
	if !Same(others(m), api.Msg{}) {
		return api.ErrForm
	}
	return api.OK
}

// isKind tells whether kind is one of the kinds of messages.
func isKind(kind int) bool {
	return kind >= api.MsgBind && kind <= api.MsgAbandon || kind == api.MsgNotice
}

// isInRange tells whether the numbers of m may be, those that its kind has not as well.
func isInRange(m api.Msg) bool {
	return isNum(m.ID) && isNum(m.Limit) && isNum(m.Target) && isNum(m.Result.Code) &&
		m.Scope >= api.ScopeBase && m.Scope <= api.ScopeSub &&
		!slices.ContainsFunc(m.Mods, hasNoOp)
}

// isNum tells whether n is one of the numbers that messages have.
func isNum(n int) bool {
	return n >= 0 && n <= api.MaxNum
}

// hasNoOp tells whether the op of o is none.
func hasNoOp(o api.Mod) bool {
	return o.Op < api.ModAdd || o.Op > api.ModReplace
}

// hasMany tells whether there is more in a list of m than may be, in those that its kind has not as well.
func hasMany(m api.Msg) bool {
	return len(m.Attrs) > api.MaxList || len(m.Entry.Attrs) > api.MaxList ||
		len(m.Mods) > api.MaxList || len(m.Controls) > mostControls ||
		slices.ContainsFunc(m.Entry.Attrs, hasManyValues) ||
		slices.ContainsFunc(m.Mods, func(o api.Mod) bool { return hasManyValues(o.Attr) })
}

// hasManyValues tells whether a has more values than may be.
func hasManyValues(a api.Attr) bool {
	return len(a.Values) > api.MaxList
}

// hasLong tells whether a text of m is too long, wherever it stands, in fields that its kind has not as well.
func hasLong(m api.Msg) bool {
	return isLong(m.DN, m.Password, m.RDN, m.Above, m.Attr, m.Value) ||
		isLong(m.Entry.DN, m.Result.DN, m.Result.Text) || isLong(m.Attrs...) ||
		slices.ContainsFunc(m.Entry.Attrs, hasLongText) ||
		slices.ContainsFunc(m.Mods, func(o api.Mod) bool { return hasLongText(o.Attr) }) ||
		slices.ContainsFunc(m.Controls, func(c api.Control) bool { return isLong(c.OID, c.Value) }) ||
		hasLongBelow(m.Filter)
}

// hasLongText tells whether a text of a is too long.
func hasLongText(a api.Attr) bool {
	return isLong(a.Type) || isLong(a.Values...)
}

// hasLongBelow tells whether a text of f, or of a filter below it, is too long.
func hasLongBelow(f api.Filter) bool {
	// Filters that no kind asked for may share lists, or stand within themselves: each list is gone over once.
	met := map[spot]struct{}{}
	lists := [][]api.Filter{{f}}
	for len(lists) > 0 {
		list := lists[0]
		lists = lists[1:]
		for _, one := range list {
			if isLong(one.Attr, one.Value, one.Subs.Head, one.Subs.Tail) || isLong(one.Subs.Mids...) {
				return true
			}
			if len(one.List) == 0 {
				continue
			}
			at := spot{first: &one.List[0], many: len(one.List)}
			if _, ok := met[at]; !ok {
				met[at] = struct{}{}
				lists = append(lists, one.List)
			}
		}
	}
	return false
}

// isLong tells whether one of l has more bytes than a text may have.
func isLong(l ...string) bool {
	return slices.ContainsFunc(l, func(s string) bool { return len(s) > api.MaxText })
}

// others tells m without the fields that its kind has.
func others(m api.Msg) api.Msg {
	switch m.Kind {
	case api.MsgBind:
		m.DN, m.Password = "", ""
	case api.MsgUnbind:
		// It has none but those of all kinds.
	case api.MsgSearch:
		m.DN, m.Scope, m.Limit, m.Types = "", 0, 0, false
		m.Filter, m.Attrs = api.Filter{}, nil
	case api.MsgEntry, api.MsgAdd:
		m.Entry = api.Entry{}
	case api.MsgModify:
		m.DN, m.Mods = "", nil
	case api.MsgDelete:
		m.DN = ""
	case api.MsgRename:
		if m.Move {
			m.Above = ""
		}
		m.DN, m.RDN, m.DropOld, m.Move = "", "", false, false
	case api.MsgCompare:
		m.DN, m.Attr, m.Value = "", "", ""
	case api.MsgAbandon:
		m.Target = 0
	default:
		m.Result = api.Result{}
	}
	m.ID, m.Kind, m.Controls = 0, 0, nil
	return m
}
