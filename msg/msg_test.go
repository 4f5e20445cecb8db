package msg

import (
	"slices"
	"strings"
	"testing"

	"bothy/api"
)

// most is the longest text that may be.
var most = strings.Repeat("t", 4096)

// kinds are all kinds of messages.
var kinds = []int{0, 1, 2, 3, 4, 5, 6, 7, 8, 9, 10, 11, 12, 13, 14, 15, 16, 24}

// resultKinds are those that have a result.
var resultKinds = []int{1, 5, 7, 9, 11, 13, 15, 24}

// present tells a filter that asks whether there is an attribute.
func present(attr string) api.Filter {
	return api.Filter{Kind: api.FilterPresent, Attr: attr}
}

// attr tells an attribute.
func attr(name string, values ...string) api.Attr {
	return api.Attr{Type: name, Values: values}
}

// wrapped tells a tag, the shortest length of body, and body.
func wrapped(tag byte, body string) string {
	n := len(body)
	switch {
	case n < 1<<7:
		return string([]byte{tag, byte(n)}) + body
	case n < 1<<8:
		return string([]byte{tag, 0x81, byte(n)}) + body
	case n < 1<<16:
		return string([]byte{tag, 0x82, byte(n >> 8), byte(n)}) + body
	}
	return string([]byte{tag, 0x83, byte(n >> 16), byte(n >> 8), byte(n)}) + body
}

// numbered tells a number that isn't below 0 in as few bytes as can be.
func numbered(n int) string {
	out := []byte{byte(n)}
	for n >>= 8; n > 0; n >>= 8 {
		out = append([]byte{byte(n)}, out...)
	}
	if out[0] > 127 {
		out = append([]byte{0}, out...)
	}
	return string(out)
}

// truth tells the byte of a truth as a part.
func truth(b bool) string {
	if b {
		return "\x01\x01\xff"
	}
	return "\x01\x01\x00"
}

// joined tells what put makes of each of list, one behind the other.
func joined[T any](list []T, put func(T) string) string {
	var out strings.Builder
	for _, one := range list {
		out.WriteString(put(one))
	}
	return out.String()
}

// codedText tells s as a part.
func codedText(s string) string { return wrapped(4, s) }

// codedAttr tells a as a part.
func codedAttr(a api.Attr) string {
	return wrapped(48, wrapped(4, a.Type)+wrapped(49, joined(a.Values, codedText)))
}

// codedMod tells o as a part.
func codedMod(o api.Mod) string {
	return wrapped(48, wrapped(10, numbered(o.Op))+codedAttr(o.Attr))
}

// codedControl tells c as a part.
func codedControl(c api.Control) string {
	critical := ""
	if c.Critical {
		critical = "\x01\x01\xff"
	}
	return wrapped(48, wrapped(4, c.OID)+critical+wrapped(4, c.Value))
}

// codedFilter tells f, which has no parts of a value, as a part.
func codedFilter(f api.Filter) string {
	switch f.Kind {
	case api.FilterAnd, api.FilterOr, api.FilterNot:
		return wrapped(byte(160+f.Kind), joined(f.List, codedFilter))
	case api.FilterPresent:
		return wrapped(135, f.Attr)
	case api.FilterSubs:
		return wrapped(164, wrapped(4, f.Attr)+wrapped(48, wrapped(128, f.Subs.Head)))
	}
	return wrapped(byte(160+f.Kind), wrapped(4, f.Attr)+wrapped(4, f.Value))
}

// codedOp tells the operation of m in the chapter's words.
func codedOp(m api.Msg) string {
	dn := wrapped(4, m.DN)
	tag := byte(64 + m.Kind + 32)
	switch m.Kind {
	case 0:
		return wrapped(tag, "\x02\x01\x03"+dn+wrapped(128, m.Password))
	case 2:
		return "\x42\x00"
	case 10:
		return wrapped(74, m.DN)
	case 16:
		return wrapped(80, numbered(m.Target))
	case 3:
		return wrapped(tag, dn+wrapped(10, numbered(m.Scope))+"\x0a\x01\x00"+wrapped(2, numbered(m.Limit))+"\x02\x01\x00"+
			truth(m.Types)+codedFilter(m.Filter)+wrapped(48, joined(m.Attrs, codedText)))
	case 4, 8:
		return wrapped(tag, wrapped(4, m.Entry.DN)+wrapped(48, joined(m.Entry.Attrs, codedAttr)))
	case 6:
		return wrapped(tag, dn+wrapped(48, joined(m.Mods, codedMod)))
	case 12:
		above := ""
		if m.Move {
			above = wrapped(128, m.Above)
		}
		return wrapped(tag, dn+wrapped(4, m.RDN)+truth(m.DropOld)+above)
	case 14:
		return wrapped(tag, dn+wrapped(48, wrapped(4, m.Attr)+wrapped(4, m.Value)))
	}
	name := ""
	if m.Kind == 24 {
		name = wrapped(138, "1.3.6.1.4.1.1466.20036")
	}
	r := m.Result
	return wrapped(tag, wrapped(10, numbered(r.Code))+wrapped(4, r.DN)+wrapped(4, r.Text)+name)
}

// coded tells the bytes of m in the chapter's words, whether it may be or not.
func coded(m api.Msg) string {
	controls := ""
	if len(m.Controls) > 0 {
		controls = wrapped(160, joined(m.Controls, codedControl))
	}
	return wrapped(48, wrapped(2, numbered(m.ID))+codedOp(m)+controls)
}

// byHand are messages, and their bytes written out by hand.
var byHand = []struct {
	m api.Msg
	s string
}{
	{api.Msg{ID: 1, Kind: api.MsgUnbind}, "\x30\x05\x02\x01\x01\x42\x00"},
	{api.Msg{Kind: api.MsgUnbind}, "\x30\x05\x02\x01\x00\x42\x00"},
	{api.Msg{ID: 127, Kind: api.MsgUnbind}, "\x30\x05\x02\x01\x7f\x42\x00"},
	{api.Msg{ID: 128, Kind: api.MsgUnbind}, "\x30\x06\x02\x02\x00\x80\x42\x00"},
	{api.Msg{ID: 256, Kind: api.MsgUnbind}, "\x30\x06\x02\x02\x01\x00\x42\x00"},
	{api.Msg{ID: api.MaxNum, Kind: api.MsgUnbind}, "\x30\x08\x02\x04\x7f\xff\xff\xff\x42\x00"},
	{api.Msg{}, "\x30\x0c\x02\x01\x00\x60\x07\x02\x01\x03\x04\x00\x80\x00"},
	{api.Msg{ID: 1, Kind: api.MsgBind, DN: "cn=a", Password: "pw"}, "\x30\x12\x02\x01\x01\x60\x0d\x02\x01\x03\x04\x04cn=a\x80\x02pw"},
	{api.Msg{ID: 2, Kind: api.MsgBindDone}, "\x30\x0c\x02\x01\x02\x61\x07\x0a\x01\x00\x04\x00\x04\x00"},
	{api.Msg{ID: 2, Kind: api.MsgSearch, DN: "dc=a", Scope: 2, Limit: 300, Types: true, Filter: present("cn"), Attrs: []string{"cn", "*", ""}},
		"\x30\x2a\x02\x01\x02\x63\x25\x04\x04dc=a\x0a\x01\x02\x0a\x01\x00\x02\x02\x01\x2c\x02\x01\x00\x01\x01\xff\x87\x02cn\x30\x09\x04\x02cn\x04\x01*\x04\x00"},
	{api.Msg{ID: 2, Kind: api.MsgSearch}, "\x30\x1a\x02\x01\x02\x63\x15\x04\x00\x0a\x01\x00\x0a\x01\x00\x02\x01\x00\x02\x01\x00\x01\x01\x00\xa0\x00\x30\x00"},
	{api.Msg{ID: 2, Kind: api.MsgSearch, Scope: 1, Filter: api.Filter{Kind: api.FilterNot, List: []api.Filter{present("a")}}},
		"\x30\x1d\x02\x01\x02\x63\x18\x04\x00\x0a\x01\x01\x0a\x01\x00\x02\x01\x00\x02\x01\x00\x01\x01\x00\xa2\x03\x87\x01a\x30\x00"},
	{api.Msg{ID: 3, Kind: api.MsgEntry, Entry: api.Entry{DN: "dc=a", Attrs: []api.Attr{attr("CN", "x", "yz"), attr("sn")}}},
		"\x30\x24\x02\x01\x03\x64\x1f\x04\x04dc=a\x30\x17\x30\x0d\x04\x02CN\x31\x07\x04\x01x\x04\x02yz\x30\x06\x04\x02sn\x31\x00"},
	{api.Msg{ID: 3, Kind: api.MsgEntry}, "\x30\x09\x02\x01\x03\x64\x04\x04\x00\x30\x00"},
	{api.Msg{ID: 3, Kind: api.MsgDone, Result: api.Result{Code: 32}}, "\x30\x0c\x02\x01\x03\x65\x07\x0a\x01\x20\x04\x00\x04\x00"},
	{api.Msg{ID: 3, Kind: api.MsgDone, Result: api.Result{Code: 255, DN: "dc=a", Text: "no"}}, "\x30\x13\x02\x01\x03\x65\x0e\x0a\x02\x00\xff\x04\x04dc=a\x04\x02no"},
	{api.Msg{ID: 4, Kind: api.MsgModify, DN: "dc=a", Mods: []api.Mod{{Op: 2, Attr: attr("o", "v")}, {Op: 1, Attr: attr("c")}}},
		"\x30\x28\x02\x01\x04\x66\x23\x04\x04dc=a\x30\x1b\x30\x0d\x0a\x01\x02\x30\x08\x04\x01o\x31\x03\x04\x01v\x30\x0a\x0a\x01\x01\x30\x05\x04\x01c\x31\x00"},
	{api.Msg{ID: 4, Kind: api.MsgModify}, "\x30\x09\x02\x01\x04\x66\x04\x04\x00\x30\x00"},
	{api.Msg{ID: 4, Kind: api.MsgModifyDone, Result: api.Result{Code: 80}}, "\x30\x0c\x02\x01\x04\x67\x07\x0a\x01\x50\x04\x00\x04\x00"},
	{api.Msg{ID: 5, Kind: api.MsgAdd, Entry: api.Entry{DN: "dc=b", Attrs: []api.Attr{attr("dc", "b")}}},
		"\x30\x18\x02\x01\x05\x68\x13\x04\x04dc=b\x30\x0b\x30\x09\x04\x02dc\x31\x03\x04\x01b"},
	{api.Msg{ID: 5, Kind: api.MsgAddDone, Result: api.Result{Code: 68}}, "\x30\x0c\x02\x01\x05\x69\x07\x0a\x01\x44\x04\x00\x04\x00"},
	{api.Msg{ID: 6, Kind: api.MsgDelete, DN: "dc=b"}, "\x30\x09\x02\x01\x06\x4a\x04dc=b"},
	{api.Msg{ID: 6, Kind: api.MsgDelete}, "\x30\x05\x02\x01\x06\x4a\x00"},
	{api.Msg{ID: 6, Kind: api.MsgDelete, DN: "\x04\x01a"}, "\x30\x08\x02\x01\x06\x4a\x03\x04\x01a"},
	{api.Msg{ID: 6, Kind: api.MsgDeleteDone, Result: api.Result{Code: 66}}, "\x30\x0c\x02\x01\x06\x6b\x07\x0a\x01\x42\x04\x00\x04\x00"},
	{api.Msg{ID: 7, Kind: api.MsgRename, DN: "dc=b", RDN: "dc=c"}, "\x30\x14\x02\x01\x07\x6c\x0f\x04\x04dc=b\x04\x04dc=c\x01\x01\x00"},
	{api.Msg{ID: 7, Kind: api.MsgRename, DN: "dc=b", RDN: "dc=c", DropOld: true, Move: true, Above: "o=d"}, "\x30\x19\x02\x01\x07\x6c\x14\x04\x04dc=b\x04\x04dc=c\x01\x01\xff\x80\x03o=d"},
	{api.Msg{ID: 7, Kind: api.MsgRename, Move: true}, "\x30\x0e\x02\x01\x07\x6c\x09\x04\x00\x04\x00\x01\x01\x00\x80\x00"},
	{api.Msg{ID: 7, Kind: api.MsgRenameDone, Result: api.Result{Code: 67}}, "\x30\x0c\x02\x01\x07\x6d\x07\x0a\x01\x43\x04\x00\x04\x00"},
	{api.Msg{ID: 8, Kind: api.MsgCompare, DN: "dc=b", Attr: "dc", Value: "b"}, "\x30\x14\x02\x01\x08\x6e\x0f\x04\x04dc=b\x30\x07\x04\x02dc\x04\x01b"},
	{api.Msg{ID: 8, Kind: api.MsgCompare}, "\x30\x0d\x02\x01\x08\x6e\x08\x04\x00\x30\x04\x04\x00\x04\x00"},
	{api.Msg{ID: 8, Kind: api.MsgCompared, Result: api.Result{Code: 6}}, "\x30\x0c\x02\x01\x08\x6f\x07\x0a\x01\x06\x04\x00\x04\x00"},
	{api.Msg{ID: 9, Kind: api.MsgAbandon, Target: 5}, "\x30\x06\x02\x01\x09\x50\x01\x05"},
	{api.Msg{ID: 9, Kind: api.MsgAbandon}, "\x30\x06\x02\x01\x09\x50\x01\x00"},
	{api.Msg{ID: 9, Kind: api.MsgAbandon, Target: 200}, "\x30\x07\x02\x01\x09\x50\x02\x00\xc8"},
	{api.Msg{ID: 9, Kind: api.MsgAbandon, Target: api.MaxNum}, "\x30\x09\x02\x01\x09\x50\x04\x7f\xff\xff\xff"},
	{api.Msg{Kind: api.MsgNotice, Result: api.Result{Code: 2}}, "\x30\x24\x02\x01\x00\x78\x1f\x0a\x01\x02\x04\x00\x04\x00\x8a\x161.3.6.1.4.1.1466.20036"},
	{api.Msg{Kind: api.MsgNotice, Result: api.Result{DN: "o=d", Text: "t"}}, "\x30\x28\x02\x01\x00\x78\x23\x0a\x01\x00\x04\x03o=d\x04\x01t\x8a\x161.3.6.1.4.1.1466.20036"},
	{api.Msg{ID: 1, Kind: api.MsgUnbind, Controls: []api.Control{{OID: "1.2"}}}, "\x30\x10\x02\x01\x01\x42\x00\xa0\x09\x30\x07\x04\x031.2\x04\x00"},
	{api.Msg{ID: 1, Kind: api.MsgUnbind, Controls: []api.Control{{OID: "1.2", Critical: true, Value: "x"}, {OID: "3"}}},
		"\x30\x1b\x02\x01\x01\x42\x00\xa0\x14\x30\x0b\x04\x031.2\x01\x01\xff\x04\x01x\x30\x05\x04\x013\x04\x00"},
	{api.Msg{ID: 6, Kind: api.MsgDelete, DN: "a", Controls: []api.Control{{OID: ".", Value: "\x00"}}}, "\x30\x10\x02\x01\x06\x4a\x01a\xa0\x08\x30\x06\x04\x01.\x04\x01\x00"},
}

// some are messages of all kinds, with all that they may have.
func some() []api.Msg {
	list := []api.Msg{
		{Kind: api.MsgBind, DN: " cn = A", Password: "\x00\xff"},
		{Kind: api.MsgSearch, DN: "x", Scope: 1, Limit: api.MaxNum, Types: true, Attrs: []string{"a", "a"},
			Filter: api.Filter{Kind: api.FilterOr, List: []api.Filter{present("a"), {Kind: api.FilterEqual, Attr: "b", Value: "c"}, {Kind: api.FilterSubs, Attr: "d", Subs: api.Subs{Head: "e"}}}}},
		{Kind: api.MsgEntry, Entry: api.Entry{DN: "dc=a", Attrs: []api.Attr{attr("b", "z", "a", "z"), attr("a"), attr("B", ""), attr("")}}},
		{Kind: api.MsgAdd, Entry: api.Entry{DN: "dc=a", Attrs: []api.Attr{attr("o", strings.Repeat("v", 200))}}},
		{Kind: api.MsgModify, DN: "dc=a", Mods: []api.Mod{{Op: 0, Attr: attr("o", "v", "w")}, {Op: 1, Attr: attr("")}, {Op: 2, Attr: attr("O", "")}}},
		{Kind: api.MsgDelete, DN: "\x02\x01\x05"},
		{Kind: api.MsgRename, DN: "dc=a", RDN: "dc=b", DropOld: true},
		{Kind: api.MsgRename, DN: "dc=a", RDN: "dc=b", Move: true, Above: "dc=c"},
		{Kind: api.MsgCompare, DN: "dc=a", Attr: "o", Value: strings.Repeat("v", 130)},
		{Kind: api.MsgAbandon, Target: 1 << 20},
	}
	for _, kind := range kinds {
		list = append(list, api.Msg{Kind: kind})
	}
	for _, kind := range resultKinds {
		list = append(list, api.Msg{Kind: kind, Result: api.Result{Code: 1000, DN: "o=d", Text: "why"}})
	}
	var out []api.Msg
	for i, m := range list {
		m.ID = i
		with := m
		with.ID = 1<<16 + i
		with.Controls = []api.Control{{OID: "2.16", Value: "v"}, {OID: "1", Critical: true}}
		out = append(out, m, with)
	}
	return out
}

// isBad tells whether Read tells of s that it is no message.
func isBad(s string) bool {
	m, err := Read(s)
	return err == api.ErrForm && isZero(m)
}

// isZero tells whether all fields of m are zero.
func isZero(m api.Msg) bool {
	f, e := m.Filter, m.Entry
	return m.ID == 0 && m.Kind == 0 && m.DN == "" && m.Password == "" && m.Scope == 0 && m.Limit == 0 && !m.Types &&
		f.Kind == 0 && f.Attr == "" && f.Value == "" && f.Subs.Head == "" && len(f.Subs.Mids) == 0 && f.Subs.Tail == "" && len(f.List) == 0 &&
		len(m.Attrs) == 0 && e.DN == "" && len(e.Attrs) == 0 && len(m.Mods) == 0 && m.RDN == "" && !m.DropOld && m.Above == "" && !m.Move &&
		m.Attr == "" && m.Value == "" && m.Target == 0 && m.Result == (api.Result{}) && len(m.Controls) == 0
}

func TestByHand(t *testing.T) {
	for _, c := range byHand {
		if err := Check(c.m); err != api.OK {
			t.Errorf("Check of %v: %d", c.m, err)
		}
		if s, err := Put(c.m); err != api.OK || s != c.s {
			t.Errorf("Put of %v: %q, %d, not %q", c.m, s, err, c.s)
		}
		if m, err := Read(c.s); err != api.OK || !Same(m, c.m) {
			t.Errorf("Read of %q: %v, %d", c.s, m, err)
		}
		if s := coded(c.m); s != c.s {
			t.Errorf("coded %v: %q, not %q", c.m, s, c.s)
		}
	}
}

func TestAll(t *testing.T) {
	for _, m := range some() {
		want := coded(m)
		if err := Check(m); err != api.OK {
			t.Errorf("Check of %v: %d", m, err)
		}
		if s, err := Put(m); err != api.OK || s != want {
			t.Errorf("Put of %v: %q, %d, not %q", m, s, err, want)
		}
		if n, err := Read(want); err != api.OK || !Same(m, n) {
			t.Errorf("Read of %q: %v, %d", want, n, err)
		}
	}
}

// TestNumbers goes over numbers around each power of 2, wherever one stands.
func TestNumbers(t *testing.T) {
	numbers := []int{0, api.MaxNum}
	for i := range 31 {
		numbers = append(numbers, 1<<i-1, 1<<i, min(1<<i+1, api.MaxNum))
	}
	for _, n := range numbers {
		for _, m := range []api.Msg{
			{ID: n, Kind: api.MsgUnbind},
			{ID: n, Kind: api.MsgSearch, Limit: n, Scope: n % 3},
			{ID: 1, Kind: api.MsgAbandon, Target: n},
			{ID: 1, Kind: api.MsgDone, Result: api.Result{Code: n}},
		} {
			want := coded(m)
			if s, err := Put(m); err != api.OK || s != want {
				t.Errorf("Put of %v: %q, %d", m, s, err)
			}
			if r, err := Read(want); err != api.OK || !Same(m, r) {
				t.Errorf("Read of %q: %v, %d", want, r, err)
			}
		}
	}
}

// ofBytes tells messages whose body, that of the whole, has n bytes, about MaxBody.
func ofBytes(n int) []api.Msg {
	// Of each value 4 bytes are a tag and a length; what stands around them is measured.
	values := func(m api.Msg, put func(*api.Msg, []string)) api.Msg {
		list := slices.Repeat([]string{most}, 15)
		list = append(list, strings.Repeat("e", 1000))
		put(&m, list)
		// The outermost tag and length, of more than 32767 bytes, have 4 bytes, or 5.
		size := len(coded(m)[4:])
		last := strings.Repeat("l", n-size-4)
		put(&m, append(list, last))
		return m
	}
	return []api.Msg{
		values(api.Msg{ID: 1, Kind: api.MsgAdd}, func(m *api.Msg, l []string) { m.Entry.Attrs = []api.Attr{attr("a", l...)} }),
		values(api.Msg{ID: 1, Kind: api.MsgEntry}, func(m *api.Msg, l []string) {
			m.Entry.Attrs = nil
			for _, s := range l {
				m.Entry.Attrs = append(m.Entry.Attrs, attr(s))
			}
			// Three more tags and lengths stand around each one; the last one makes up for it.
			last := &m.Entry.Attrs[len(l)-1]
			last.Type = last.Type[:max(0, len(last.Type)-6)]
		}),
		values(api.Msg{ID: 1, Kind: api.MsgModify}, func(m *api.Msg, l []string) { m.Mods = []api.Mod{{Attr: attr("a", l...)}} }),
		values(api.Msg{ID: 1, Kind: api.MsgSearch, Attrs: []string{"a"}}, func(m *api.Msg, l []string) { m.Attrs = l }),
	}
}

// TestLongest goes over the edges of a body: one of MaxBody bytes may be.
func TestLongest(t *testing.T) {
	sizes := map[int]int{}
	for n := api.MaxBody - 24; n <= api.MaxBody+24; n++ {
		for i, m := range ofBytes(n) {
			want := coded(m)
			head := 4
			if want[1] == 0x83 {
				head = 5
			}
			size := len(want) - head
			sizes[size-api.MaxBody]++
			if err := Check(m); err != api.OK {
				t.Fatalf("Check of %d bytes: %d", size, err)
			}
			s, err := Put(m)
			if size > api.MaxBody {
				if s != "" || err != api.ErrLong {
					t.Errorf("Put of %d bytes: %d bytes, %d", size, len(s), err)
				}
				if !isBad(want) {
					t.Errorf("Read of %d bytes: it is one", size)
				}
				continue
			}
			if s != want || err != api.OK {
				t.Errorf("Put %d of %d bytes: %d bytes, %d", i, size, len(s), err)
			}
			if r, err := Read(want); err != api.OK || !Same(m, r) {
				t.Errorf("Read of %d bytes: %d", size, err)
			}
		}
	}
	for _, d := range []int{-1, 0, 1, 2} {
		if sizes[d] < 3 {
			t.Errorf("bodies of %d bytes more than may be: %d", d, sizes[d])
		}
	}
}

// TestTooLong holds that whichever body is too long, it is told, and soon, though lists share memory.
func TestTooLong(t *testing.T) {
	values := slices.Repeat([]string{most}, 1024)
	attrs := slices.Repeat([]api.Attr{attr(most, values...)}, 1024)
	mods := make([]api.Mod, 1024)
	for i := range mods {
		mods[i].Attr = attrs[i]
	}
	small := slices.Repeat([]api.Attr{attr("", slices.Repeat([]string{""}, 1024)...)}, 1024)
	for i, m := range []api.Msg{
		{Kind: api.MsgAdd, Entry: api.Entry{Attrs: attrs}},
		{Kind: api.MsgEntry, Entry: api.Entry{Attrs: attrs[:1]}},
		{Kind: api.MsgEntry, Entry: api.Entry{Attrs: []api.Attr{attr("a", values[:17]...)}}},
		{Kind: api.MsgEntry, Entry: api.Entry{Attrs: small}},
		{Kind: api.MsgModify, Mods: mods},
		{Kind: api.MsgModify, Mods: mods[:1]},
		{Kind: api.MsgSearch, Attrs: values},
		{Kind: api.MsgSearch, Attrs: values[:16]},
	} {
		if err := Check(m); err != api.OK {
			t.Errorf("Check of %d: %d", i, err)
		}
		if s, err := Put(m); err != api.ErrLong || s != "" {
			t.Errorf("Put of %d: %d bytes, %d", i, len(s), err)
		}
	}
	// A filter that may stand alone, but leaves no room for what stands around it.
	long := api.Filter{Kind: api.FilterEqual, Attr: "a", Value: strings.Repeat("v", 1010)}
	f := api.Filter{Kind: api.FilterAnd, List: slices.Repeat([]api.Filter{long}, 64)}
	m := api.Msg{Kind: api.MsgSearch, Filter: f, Attrs: []string{strings.Repeat("a", 100)}}
	if s, err := Put(m); Check(m) != api.OK || err != api.OK || s != coded(m) {
		t.Errorf("Put of a long filter: %d bytes, %d", len(s), err)
	}
	m.Attrs = []string{strings.Repeat("a", 300)}
	if s, err := Put(m); Check(m) != api.OK || err != api.ErrLong || s != "" {
		t.Errorf("Put of a filter without room: %d bytes, %d", len(s), err)
	}
	// The controls alone, of as many bytes as they may have, are never too long.
	m = api.Msg{Kind: api.MsgUnbind, Controls: slices.Repeat([]api.Control{{OID: strings.Repeat("1", 64), Critical: true, Value: most[:1024]}}, 16)}
	if s, err := Put(m); err != api.OK || s != coded(m) {
		t.Errorf("Put of all controls: %d bytes, %d", len(s), err)
	}
	if r, err := Read(coded(m)); err != api.OK || !Same(r, m) {
		t.Errorf("Read of all controls: %d", err)
	}
}

// TestMany holds that lists with as many parts as may be are put and read.
func TestMany(t *testing.T) {
	mods := slices.Repeat([]api.Mod{{Attr: attr("o")}}, 1024)
	for _, m := range []api.Msg{
		{Kind: api.MsgSearch, Attrs: slices.Repeat([]string{"cn"}, 1024)},
		{Kind: api.MsgAdd, Entry: api.Entry{Attrs: slices.Repeat([]api.Attr{attr("cn", "a")}, 1024)}},
		{Kind: api.MsgEntry, Entry: api.Entry{Attrs: []api.Attr{attr("cn", slices.Repeat([]string{"abc"}, 1024)...)}}},
		{Kind: api.MsgModify, Mods: mods},
		{Kind: api.MsgModify, Mods: []api.Mod{{Op: 1, Attr: attr("cn", slices.Repeat([]string{"abc"}, 1024)...)}}},
		{Kind: api.MsgUnbind, Controls: slices.Repeat([]api.Control{{OID: "1"}}, 16)},
	} {
		want := coded(m)
		if s, err := Put(m); err != api.OK || s != want {
			t.Errorf("Put of %d bytes: %d bytes, %d", len(want), len(s), err)
		}
		if r, err := Read(want); err != api.OK || !Same(r, m) {
			t.Errorf("Read of %d bytes: %d", len(want), err)
		}
	}
}

// TestPutChecks holds that Put tells Check's error, and nothing beside it.
func TestPutChecks(t *testing.T) {
	for _, c := range wrong() {
		if s, err := Put(c.m); err != c.want || s != "" {
			t.Errorf("Put of %s: %d bytes, %d", c.what, len(s), err)
		}
	}
}

// TestHandedIn holds that what is handed in stays as it is, and that what is told has memory of its own.
func TestHandedIn(t *testing.T) {
	values := []string{"x", "y", "z"}
	attrs := []api.Attr{{Type: "a", Values: values[:1]}, {Type: "b", Values: values[:2]}, {Type: "c"}}
	m := api.Msg{ID: 1, Kind: api.MsgAdd, Entry: api.Entry{DN: "dc=a", Attrs: attrs[:2]}}
	s, _ := Put(m)
	one, _ := Read(s)
	if !slices.Equal(values, []string{"x", "y", "z"}) || attrs[2].Type != "c" || len(attrs[0].Values) != 1 {
		t.Errorf("handed in: %v, %v", values, attrs)
	}
	two, _ := Read(s)
	one.Entry.Attrs[0].Values[0] = "spoilt"
	one.Entry.Attrs[1].Type = "spoilt"
	if !Same(two, m) || values[0] != "x" {
		t.Errorf("Read of the same bytes: %v", two)
	}
}
