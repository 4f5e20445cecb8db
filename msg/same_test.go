package msg

import (
	"testing"

	"bothy/api"
)

// full tells a message with something in each field, each time in new memory.
func full() api.Msg {
	return api.Msg{
		ID: 1, Kind: 2, DN: "a", Password: "b", Scope: 3, Limit: 4, Types: true,
		Filter: api.Filter{Kind: 5, Attr: "c", Value: "d", Subs: api.Subs{Head: "e", Mids: []string{"f", "g"}, Tail: "h"}, List: []api.Filter{present("i"), present("j")}},
		Attrs:  []string{"k", "l"},
		Entry:  api.Entry{DN: "m", Attrs: []api.Attr{attr("n", "o", "p"), attr("q")}},
		Mods:   []api.Mod{{Op: 6, Attr: attr("r", "s")}, {Op: 7, Attr: attr("t", "u", "v")}},
		RDN:    "w", DropOld: true, Above: "x", Move: true, Attr: "y", Value: "z", Target: 8,
		Result:   api.Result{Code: 9, DN: "A", Text: "B"},
		Controls: []api.Control{{OID: "C", Critical: true, Value: "D"}, {OID: "E"}},
	}
}

// changes tells what makes a message another one, a field, or a part of one, each.
func changes() map[string]func(*api.Msg) {
	return map[string]func(*api.Msg){
		"ID":                      func(m *api.Msg) { m.ID++ },
		"Kind":                    func(m *api.Msg) { m.Kind++ },
		"DN":                      func(m *api.Msg) { m.DN += "'" },
		"letters of DN":           func(m *api.Msg) { m.DN += "X" },
		"Password":                func(m *api.Msg) { m.Password += "'" },
		"Scope":                   func(m *api.Msg) { m.Scope++ },
		"Limit":                   func(m *api.Msg) { m.Limit++ },
		"Types":                   func(m *api.Msg) { m.Types = !m.Types },
		"Filter's Kind":           func(m *api.Msg) { m.Filter.Kind++ },
		"Filter's Attr":           func(m *api.Msg) { m.Filter.Attr += "'" },
		"Filter's Value":          func(m *api.Msg) { m.Filter.Value += "'" },
		"Filter's Head":           func(m *api.Msg) { m.Filter.Subs.Head += "'" },
		"Filter's Mids":           func(m *api.Msg) { m.Filter.Subs.Mids = append(m.Filter.Subs.Mids, "") },
		"Filter's Tail":           func(m *api.Msg) { m.Filter.Subs.Tail += "'" },
		"Filter's List":           func(m *api.Msg) { m.Filter.List = append(m.Filter.List, present("")) },
		"a filter of the filter":  func(m *api.Msg) { m.Filter.List = []api.Filter{present("i"), present("J")} },
		"one more of Attrs":       func(m *api.Msg) { m.Attrs = append(m.Attrs, "") },
		"one of Attrs":            func(m *api.Msg) { m.Attrs = []string{"k", "L"} },
		"the order of Attrs":      func(m *api.Msg) { m.Attrs = []string{"l", "k"} },
		"no Attrs":                func(m *api.Msg) { m.Attrs = []string{"m"} },
		"Entry's DN":              func(m *api.Msg) { m.Entry.DN += "'" },
		"one more attribute":      func(m *api.Msg) { m.Entry.Attrs = append(m.Entry.Attrs, attr("")) },
		"an attribute's type":     func(m *api.Msg) { m.Entry.Attrs = []api.Attr{attr("n", "o", "p"), attr("Q")} },
		"an attribute's value":    func(m *api.Msg) { m.Entry.Attrs = []api.Attr{attr("n", "o", "P"), attr("q")} },
		"the order of values":     func(m *api.Msg) { m.Entry.Attrs = []api.Attr{attr("n", "p", "o"), attr("q")} },
		"the order of attributes": func(m *api.Msg) { m.Entry.Attrs = []api.Attr{attr("q"), attr("n", "o", "p")} },
		"one more value":          func(m *api.Msg) { m.Entry.Attrs = []api.Attr{attr("n", "o", "p"), attr("q", "")} },
		"one more mod":            func(m *api.Msg) { m.Mods = append(m.Mods, api.Mod{}) },
		"an op": func(m *api.Msg) {
			m.Mods = []api.Mod{{Op: 6, Attr: attr("r", "s")}, {Op: 8, Attr: attr("t", "u", "v")}}
		},
		"a mod's type": func(m *api.Msg) {
			m.Mods = []api.Mod{{Op: 6, Attr: attr("R", "s")}, {Op: 7, Attr: attr("t", "u", "v")}}
		},
		"a mod's value": func(m *api.Msg) { m.Mods = []api.Mod{{Op: 6, Attr: attr("r", "s")}, {Op: 7, Attr: attr("t", "u")}} },
		"the order of mods": func(m *api.Msg) {
			m.Mods = []api.Mod{{Op: 7, Attr: attr("t", "u", "v")}, {Op: 6, Attr: attr("r", "s")}}
		},
		"RDN":              func(m *api.Msg) { m.RDN += "'" },
		"DropOld":          func(m *api.Msg) { m.DropOld = !m.DropOld },
		"Above":            func(m *api.Msg) { m.Above += "'" },
		"Move":             func(m *api.Msg) { m.Move = !m.Move },
		"Attr":             func(m *api.Msg) { m.Attr += "'" },
		"Value":            func(m *api.Msg) { m.Value += "'" },
		"Target":           func(m *api.Msg) { m.Target-- },
		"Code":             func(m *api.Msg) { m.Result.Code-- },
		"Result's DN":      func(m *api.Msg) { m.Result.DN += "'" },
		"Text":             func(m *api.Msg) { m.Result.Text += "'" },
		"one more control": func(m *api.Msg) { m.Controls = append(m.Controls, api.Control{}) },
		"an OID":           func(m *api.Msg) { m.Controls = []api.Control{{OID: "C", Critical: true, Value: "D"}, {OID: "F"}} },
		"Critical": func(m *api.Msg) {
			m.Controls = []api.Control{{OID: "C", Critical: true, Value: "D"}, {OID: "E", Critical: true}}
		},
		"a control's Value":     func(m *api.Msg) { m.Controls = []api.Control{{OID: "C", Critical: true}, {OID: "E"}} },
		"the order of controls": func(m *api.Msg) { m.Controls = []api.Control{{OID: "E"}, {OID: "C", Critical: true, Value: "D"}} },
	}
}

func TestSame(t *testing.T) {
	for i, m := range []api.Msg{full(), {}} {
		for what, change := range changes() {
			n := full()
			if i == 1 {
				n = api.Msg{}
			}
			if !Same(m, n) || !Same(n, m) || !Same(m, m) {
				t.Fatalf("Same of two that are the same: false")
			}
			change(&n)
			if Same(m, n) || Same(n, m) {
				t.Errorf("Same of two with another %s: true", what)
			}
		}
	}
}

// TestSamePairs holds that of all pairs of changed messages just those with one change are the same.
func TestSamePairs(t *testing.T) {
	for a, change := range changes() {
		for b, other := range changes() {
			m, n := full(), full()
			change(&m)
			other(&n)
			if Same(m, n) != (a == b) {
				t.Errorf("Same of %s and %s: %t", a, b, a != b)
			}
		}
	}
}

// TestSameEmpty holds that lists that are empty are the same, wherever they stand.
func TestSameEmpty(t *testing.T) {
	m := api.Msg{Entry: api.Entry{Attrs: []api.Attr{{Type: "a"}}}, Mods: []api.Mod{{}}}
	n := api.Msg{
		Filter:   api.Filter{List: []api.Filter{}, Subs: api.Subs{Mids: []string{}}},
		Attrs:    []string{},
		Entry:    api.Entry{Attrs: []api.Attr{{Type: "a", Values: []string{}}}},
		Mods:     []api.Mod{{Attr: api.Attr{Values: []string{}}}},
		Controls: []api.Control{},
	}
	if !Same(m, n) || !Same(n, m) {
		t.Errorf("Same of lists that are nil, and lists of length 0: false")
	}
	m.Entry, n.Entry, m.Mods, n.Mods = api.Entry{}, api.Entry{Attrs: []api.Attr{}}, nil, []api.Mod{}
	if !Same(m, n) || !Same(n, m) {
		t.Errorf("Same of no attributes and mods: false")
	}
	n.Attrs = []string{""}
	if Same(m, n) || Same(n, m) {
		t.Errorf("Same of none and an empty one: true")
	}
}

// TestSameWrong holds that messages that may not be are the same or not as well, and that filters are asked by filter.Same.
func TestSameWrong(t *testing.T) {
	m := api.Msg{ID: -1, Kind: 99, Scope: -5, Filter: within(), Mods: []api.Mod{{Op: 77}}}
	n := m
	n.Filter = within()
	if !Same(m, n) {
		t.Errorf("Same of filters within themselves: false")
	}
	// They are looked at as deep as 65 levels, where a filter that is deeper has a list too.
	n.Filter = deep(5000)
	if !Same(m, n) {
		t.Errorf("Same of a filter within itself and a deep one: false")
	}
	n.Filter = deep(65)
	if Same(m, n) {
		t.Errorf("Same of a filter within itself and one of 65 levels: true")
	}
	n.Filter = m.Filter
	n.ID = -2
	if Same(m, n) {
		t.Errorf("Same of other IDs: true")
	}
}
