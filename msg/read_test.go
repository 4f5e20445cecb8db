package msg

import (
	"strings"
	"testing"

	"bothy/api"
	"bothy/fcode"
)

// cursor goes over bytes, and is bad as soon as they are not as a message has them.
type cursor struct {
	s   string
	bad bool
}

// head tells the tag and the length with which c's bytes begin, and how many bytes both have, 0 if there are none.
func (c *cursor) head() (byte, int, int) {
	s := c.s
	if len(s) < 2 {
		return 0, 0, 0
	}
	switch n := int(s[1]); {
	case n < 128:
		return s[0], n, 2
	case n == 129 && len(s) > 2 && s[2] > 127:
		return s[0], int(s[2]), 3
	case n == 130 && len(s) > 3 && s[2] > 0:
		return s[0], int(s[2])<<8 + int(s[3]), 4
	case n == 131 && len(s) > 4 && s[2:5] == "\x01\x00\x00":
		return s[0], 1 << 16, 5
	}
	return 0, 0, 0
}

// isAt tells whether a part of this tag comes next.
func (c *cursor) isAt(tag byte) bool {
	return len(c.s) > 0 && c.s[0] == tag
}

// part tells the bytes of the next part, and its body; it has one of these tags.
func (c *cursor) part(tags ...byte) (string, string) {
	tag, n, size := c.head()
	if size == 0 || len(c.s) < size+n || !strings.Contains(string(tags), string([]byte{tag})) {
		c.bad = true
		c.s = ""
		return "", ""
	}
	whole := c.s[:size+n]
	c.s = c.s[size+n:]
	return whole, whole[size:]
}

// inner tells the body of the next part, to be gone over.
func (c *cursor) inner(tags ...byte) *cursor {
	_, body := c.part(tags...)
	return &cursor{s: body}
}

// end says that there is nothing more in in.
func (c *cursor) end(in *cursor) {
	c.bad = c.bad || in.bad || in.s != ""
}

// text goes over a text of this tag.
func (c *cursor) text(tag byte) string {
	_, body := c.part(tag)
	c.bad = c.bad || len(body) > 4096
	return body
}

// number goes over a number of this tag that is no more than most.
func (c *cursor) number(tag byte, most int) {
	_, body := c.part(tag)
	c.bad = c.bad || !isNumber(body, most)
}

// isNumber tells whether s is a number from 0 to most, as short as can be.
func isNumber(s string, most int) bool {
	n := 0
	for i := range len(s) {
		n = n<<8 + int(s[i])
	}
	return len(s) > 0 && len(s) < 5 && n <= most && numbered(n) == s
}

// truth goes over a truth.
func (c *cursor) truth() string {
	_, body := c.part(1)
	c.bad = c.bad || body != "\x00" && body != "\xff"
	return body
}

// each goes over a part of this tag, of no more than most parts.
func (c *cursor) each(tag byte, most int, one func(*cursor)) {
	in := c.inner(tag)
	n := 0
	for in.s != "" && !in.bad {
		one(in)
		n++
	}
	c.end(in)
	c.bad = c.bad || n > most
}

// oneText goes over a text.
func oneText(c *cursor) { c.text(4) }

// oneAttr goes over an attribute.
func oneAttr(c *cursor) {
	in := c.inner(48)
	in.text(4)
	in.each(49, 1024, oneText)
	c.end(in)
}

// oneMod goes over a modification.
func oneMod(c *cursor) {
	in := c.inner(48)
	in.number(10, 2)
	oneAttr(in)
	c.end(in)
}

// oneControl goes over a control.
func oneControl(c *cursor) {
	in := c.inner(48)
	oid := in.text(4)
	c.bad = c.bad || oid == "" || len(oid) > 64 || strings.Trim(oid, ".0123456789") != ""
	if in.isAt(1) {
		c.bad = c.bad || in.truth() != "\xff"
	}
	c.bad = c.bad || len(in.text(4)) > 1024
	c.end(in)
}

// op goes over what stands behind the tag of an operation.
func (c *cursor) op(tag byte) {
	switch tag {
	case 66:
	case 74:
		c.bad = len(c.s) > 4096
		c.s = ""
	case 80:
		c.bad = !isNumber(c.s, api.MaxNum)
		c.s = ""
	case 96:
		version, _ := c.part(2)
		c.bad = c.bad || version != "\x02\x01\x03"
		c.text(4)
		c.text(128)
	case 99:
		c.text(4)
		c.number(10, 2)
		c.number(10, 0)
		c.number(2, api.MaxNum)
		c.number(2, 0)
		c.truth()
		filter, _ := c.part(160, 161, 162, 163, 164, 165, 166, 135, 168)
		_, err := fcode.Read(filter)
		c.bad = c.bad || err != api.OK
		c.each(48, 1024, oneText)
	case 100, 104:
		c.text(4)
		c.each(48, 1024, oneAttr)
	case 102:
		c.text(4)
		c.each(48, 1024, oneMod)
	case 108:
		c.text(4)
		c.text(4)
		c.truth()
		if c.s != "" {
			c.text(128)
		}
	case 110:
		c.text(4)
		pair := c.inner(48)
		pair.text(4)
		pair.text(4)
		c.end(pair)
	case 120:
		c.result()
		name, _ := c.part(138)
		c.bad = c.bad || name != "\x8a\x161.3.6.1.4.1.1466.20036"
	default:
		c.result()
	}
}

// result goes over a result.
func (c *cursor) result() {
	c.number(10, api.MaxNum)
	c.text(4)
	c.text(4)
}

// isMessage tells whether s is as the chapter has the bytes of a message.
func isMessage(s string) bool {
	whole := &cursor{s: s}
	c := whole.inner(48)
	c.number(2, api.MaxNum)
	tag, _, _ := c.head()
	op := c.inner(66, 74, 80, 96, 97, 99, 100, 101, 102, 103, 104, 105, 107, 108, 109, 110, 111, 120)
	op.op(tag)
	c.end(op)
	if c.s != "" {
		empty := c.s == "\xa0\x00"
		c.each(160, 16, oneControl)
		c.bad = c.bad || empty
	}
	whole.end(c)
	return !whole.bad && whole.s == ""
}

// checkRead holds Read of s against isMessage, and what is read against s.
func checkRead(t *testing.T, s string) bool {
	t.Helper()
	if !isMessage(s) {
		if !isBad(s) {
			m, err := Read(s)
			t.Fatalf("Read of %q: %s, %d", s, told(m), err)
		}
		return false
	}
	m, err := Read(s)
	if err != api.OK || coded(m) != s || plainCheck(m) != api.OK {
		t.Fatalf("Read of %q: %s, %d", s, told(m), err)
	}
	return true
}

// TestReadSpoilt goes over messages with a byte less, a byte more, and a byte that is another one, at each place.
func TestReadSpoilt(t *testing.T) {
	good, bad := 0, 0
	check := func(s string) {
		if checkRead(t, s) {
			good++
		} else {
			bad++
		}
	}
	for _, c := range byHand {
		s := c.s
		check(s)
		check(s + s)
		for i := range len(s) + 1 {
			check(s[:i])
			check(s[i:])
			for c := range 256 {
				b := string([]byte{byte(c)})
				check(s[:i] + b + s[i:])
				if i < len(s) {
					check(s[:i] + b + s[i+1:])
				}
			}
			if i < len(s) {
				check(s[:i] + s[i+1:])
			}
		}
	}
	if good < 10000 || bad < 100000 {
		t.Errorf("%d messages, and %d that are none", good, bad)
	}
}

// TestReadOps goes over all tags of an operation, with the bodies of all of them.
func TestReadOps(t *testing.T) {
	good := 0
	for _, m := range some() {
		op := codedOp(m)
		c := &cursor{s: op}
		_, body := c.part(op[0])
		for tag := range 256 {
			if checkRead(t, wrapped(48, "\x02\x01\x05"+wrapped(byte(tag), body))) {
				good++
			}
		}
	}
	if good < len(some()) {
		t.Errorf("%d messages", good)
	}
}

// TestReadParts goes over messages with a part less, a part twice, and parts the other way round, at each level.
func TestReadParts(t *testing.T) {
	for _, m := range some() {
		s := coded(m)
		checkRead(t, s)
		for _, other := range moved(s) {
			checkRead(t, other)
		}
	}
}

// moved tells bytes like those of s, with a part less, a part twice, a part more, and parts the other way round.
func moved(s string) []string {
	whole := &cursor{s: s}
	tag, _, _ := whole.head()
	in := whole.inner(tag)
	var parts []string
	for in.s != "" {
		next, _, _ := in.head()
		part, _ := in.part(next)
		parts = append(parts, part)
	}
	if whole.bad || in.bad || tag&32 == 0 {
		return nil
	}
	var out []string
	put := func(l ...string) { out = append(out, wrapped(tag, strings.Join(l, ""))) }
	for i, part := range parts {
		before, behind := strings.Join(parts[:i], ""), strings.Join(parts[i+1:], "")
		put(before, behind)
		put(before, part, part, behind)
		put(behind, part, before)
		for _, more := range []string{"\x04\x00", "\x04\x01a", "\x30\x00", "\x01\x01\x00", "\x01\x01\xff", "\x0a\x01\x00", "\x02\x01\x00", "\x80\x00", "\xa0\x00", "\x8a\x00", "\x05\x00"} {
			put(before, more, part, behind)
			put(before, more, behind)
			put(before, part, more, behind)
		}
		for _, other := range moved(part) {
			put(before, other, behind)
		}
	}
	return out
}

// TestReadWrong goes over bytes that are no message's.
func TestReadWrong(t *testing.T) {
	for what, s := range map[string]string{
		"no bytes":                             "",
		"a byte":                               "x",
		"a tag alone":                          "\x30",
		"nothing":                              "\x30\x00",
		"an ID alone":                          "\x30\x03\x02\x01\x01",
		"an operation alone":                   "\x30\x02\x42\x00",
		"an operation ahead of the ID":         "\x30\x05\x42\x00\x02\x01\x01",
		"two operations":                       "\x30\x07\x02\x01\x01\x42\x00\x42\x00",
		"a byte behind":                        "\x30\x05\x02\x01\x01\x42\x00x",
		"a message behind":                     "\x30\x05\x02\x01\x01\x42\x00\x30\x05\x02\x01\x01\x42\x00",
		"a byte ahead":                         "\x00\x30\x05\x02\x01\x01\x42\x00",
		"a body that is cut":                   "\x30\x06\x02\x01\x01\x42\x00",
		"a length of two bytes":                "\x30\x81\x05\x02\x01\x01\x42\x00",
		"a length without an end":              "\x30\x80\x02\x01\x01\x42\x00\x00\x00",
		"another tag":                          "\x31\x05\x02\x01\x01\x42\x00",
		"an ID of another tag":                 "\x30\x05\x0a\x01\x01\x42\x00",
		"an ID of no bytes":                    "\x30\x04\x02\x00\x42\x00",
		"an ID that is not short":              "\x30\x06\x02\x02\x00\x01\x42\x00",
		"an ID below 0":                        "\x30\x05\x02\x01\xff\x42\x00",
		"an ID of five bytes":                  "\x30\x09\x02\x05\x01\x00\x00\x00\x00\x42\x00",
		"an ID above MaxNum":                   "\x30\x09\x02\x05\x00\x80\x00\x00\x00\x42\x00",
		"an ID with a length of two bytes":     "\x30\x06\x02\x81\x01\x01\x42\x00",
		"an unbind with a body":                "\x30\x06\x02\x01\x01\x42\x01\x00",
		"an unbind with parts":                 "\x30\x05\x02\x01\x01\x62\x00",
		"a delete with parts":                  "\x30\x06\x02\x01\x01\x6a\x01a",
		"an abandon with parts":                "\x30\x06\x02\x01\x01\x70\x01\x01",
		"a bind without parts":                 "\x30\x0c\x02\x01\x01\x40\x07\x02\x01\x03\x04\x00\x80\x00",
		"a bind of another version":            "\x30\x0c\x02\x01\x01\x60\x07\x02\x01\x02\x04\x00\x80\x00",
		"a bind of a version that is long":     "\x30\x0d\x02\x01\x01\x60\x08\x02\x02\x00\x03\x04\x00\x80\x00",
		"a bind with another password":         "\x30\x0c\x02\x01\x01\x60\x07\x02\x01\x03\x04\x00\xa3\x00",
		"a bind without a password":            "\x30\x0a\x02\x01\x01\x60\x05\x02\x01\x03\x04\x00",
		"a bind with two passwords":            "\x30\x0e\x02\x01\x01\x60\x09\x02\x01\x03\x04\x00\x80\x00\x80\x00",
		"an abandon of nothing":                "\x30\x05\x02\x01\x01\x50\x00",
		"an abandon of a number that is long":  "\x30\x07\x02\x01\x01\x50\x02\x00\x01",
		"an abandon of a number below 0":       "\x30\x06\x02\x01\x01\x50\x01\x80",
		"an abandon of five bytes":             "\x30\x0a\x02\x01\x01\x50\x05\x01\x00\x00\x00\x00",
		"an operation of a class of its own":   "\x30\x05\x02\x01\x01\x82\x00",
		"an operation of no kind":              "\x30\x0c\x02\x01\x01\x71\x07\x0a\x01\x00\x04\x00\x04\x00",
		"an extended request":                  "\x30\x0c\x02\x01\x01\x77\x07\x80\x05\x31\x2e\x33\x2e\x36",
		"a tag that is none":                   "\x30\x05\x02\x01\x01\x5f\x00",
		"a reference":                          "\x30\x07\x02\x01\x01\x73\x02\x04\x00",
		"aliases that are followed":            "\x30\x1a\x02\x01\x02\x63\x15\x04\x00\x0a\x01\x00\x0a\x01\x03\x02\x01\x00\x02\x01\x00\x01\x01\x00\xa0\x00\x30\x00",
		"a limit of time":                      "\x30\x1a\x02\x01\x02\x63\x15\x04\x00\x0a\x01\x00\x0a\x01\x00\x02\x01\x00\x02\x01\x01\x01\x01\x00\xa0\x00\x30\x00",
		"a limit below 0":                      "\x30\x1a\x02\x01\x02\x63\x15\x04\x00\x0a\x01\x00\x0a\x01\x00\x02\x01\xff\x02\x01\x00\x01\x01\x00\xa0\x00\x30\x00",
		"a scope of 3":                         "\x30\x1a\x02\x01\x02\x63\x15\x04\x00\x0a\x01\x03\x0a\x01\x00\x02\x01\x00\x02\x01\x00\x01\x01\x00\xa0\x00\x30\x00",
		"a truth of 1":                         "\x30\x1a\x02\x01\x02\x63\x15\x04\x00\x0a\x01\x00\x0a\x01\x00\x02\x01\x00\x02\x01\x00\x01\x01\x01\xa0\x00\x30\x00",
		"a filter that is none":                "\x30\x1a\x02\x01\x02\x63\x15\x04\x00\x0a\x01\x00\x0a\x01\x00\x02\x01\x00\x02\x01\x00\x01\x01\x00\xa2\x00\x30\x00",
		"no filter":                            "\x30\x18\x02\x01\x02\x63\x13\x04\x00\x0a\x01\x00\x0a\x01\x00\x02\x01\x00\x02\x01\x00\x01\x01\x00\x30\x00",
		"a search without attributes":          "\x30\x18\x02\x01\x02\x63\x13\x04\x00\x0a\x01\x00\x0a\x01\x00\x02\x01\x00\x02\x01\x00\x01\x01\x00\xa0\x00",
		"an attribute without values":          "\x30\x0e\x02\x01\x05\x68\x09\x04\x00\x30\x05\x30\x03\x04\x01a",
		"an attribute with values in a list":   "\x30\x10\x02\x01\x05\x68\x0b\x04\x00\x30\x07\x30\x05\x04\x01a\x30\x00",
		"an entry without a list":              "\x30\x07\x02\x01\x05\x68\x02\x04\x00",
		"an op of 3":                           "\x30\x13\x02\x01\x04\x66\x0e\x04\x00\x30\x0a\x30\x08\x0a\x01\x03\x30\x03\x04\x01o",
		"an above of another tag":              "\x30\x0e\x02\x01\x07\x6c\x09\x04\x00\x04\x00\x01\x01\x00\x04\x00",
		"a truth that is none":                 "\x30\x0c\x02\x01\x07\x6c\x07\x04\x00\x04\x00\x01\x01\x01",
		"a compare with three":                 "\x30\x0f\x02\x01\x08\x6e\x0a\x04\x00\x30\x06\x04\x00\x04\x00\x04\x00",
		"a compare with one":                   "\x30\x0b\x02\x01\x08\x6e\x06\x04\x00\x30\x02\x04\x00",
		"a result with a fourth part":          "\x30\x0e\x02\x01\x03\x65\x09\x0a\x01\x20\x04\x00\x04\x00\xa3\x00",
		"a result with a code below 0":         "\x30\x0c\x02\x01\x03\x65\x07\x0a\x01\xff\x04\x00\x04\x00",
		"a notice without a name":              "\x30\x0c\x02\x01\x00\x78\x07\x0a\x01\x02\x04\x00\x04\x00",
		"a notice of another name":             "\x30\x24\x02\x01\x00\x78\x1f\x0a\x01\x02\x04\x00\x04\x00\x8a\x161.3.6.1.4.1.1466.20037",
		"a done with a notice's name":          "\x30\x24\x02\x01\x00\x65\x1f\x0a\x01\x02\x04\x00\x04\x00\x8a\x161.3.6.1.4.1.1466.20036",
		"no controls":                          "\x30\x07\x02\x01\x01\x42\x00\xa0\x00",
		"controls twice":                       "\x30\x17\x02\x01\x01\x42\x00\xa0\x07\x30\x05\x04\x011\x04\x00\xa0\x07\x30\x05\x04\x011\x04\x00",
		"a control with a truth that is false": "\x30\x11\x02\x01\x01\x42\x00\xa0\x0a\x30\x08\x04\x011\x01\x01\x00\x04\x00",
		"a control without a value":            "\x30\x0c\x02\x01\x01\x42\x00\xa0\x05\x30\x03\x04\x011",
		"a control with letters as its name":   "\x30\x0e\x02\x01\x01\x42\x00\xa0\x07\x30\x05\x04\x01a\x04\x00",
		"a control without a name":             "\x30\x0d\x02\x01\x01\x42\x00\xa0\x06\x30\x04\x04\x00\x04\x00",
		"17 controls":                          wrapped(48, "\x02\x01\x01\x42\x00"+wrapped(160, strings.Repeat("\x30\x05\x04\x011\x04\x00", 17))),
		"1025 controls":                        wrapped(48, "\x02\x01\x01\x42\x00"+wrapped(160, strings.Repeat("\x30\x05\x04\x011\x04\x00", 1025))),
		"a control of 1025 bytes":              wrapped(48, "\x02\x01\x01\x42\x00"+wrapped(160, wrapped(48, "\x04\x011"+wrapped(4, most[:1025])))),
		"1025 attributes that are asked for":   wrapped(48, "\x02\x01\x01"+wrapped(99, "\x04\x00\x0a\x01\x00\x0a\x01\x00\x02\x01\x00\x02\x01\x00\x01\x01\x00\xa0\x00"+wrapped(48, strings.Repeat("\x04\x00", 1025)))),
		"1025 values":                          wrapped(48, "\x02\x01\x01"+wrapped(104, "\x04\x00"+wrapped(48, wrapped(48, "\x04\x00"+wrapped(49, strings.Repeat("\x04\x00", 1025)))))),
		"1025 mods":                            wrapped(48, "\x02\x01\x01"+wrapped(102, "\x04\x00"+wrapped(48, strings.Repeat("\x30\x09\x0a\x01\x00\x30\x04\x04\x00\x31\x00", 1025)))),
		"a name of 4097 bytes":                 wrapped(48, "\x02\x01\x01"+wrapped(74, most+"t")),
		"a body above MaxBody":                 wrapped(48, "\x02\x01\x01"+wrapped(74, strings.Repeat("a", 65530))),
		"levels without an end":                strings.Repeat("\x30\x80", 1<<15),
		"a mebibyte of a tag":                  strings.Repeat("\x30", 1<<20),
		"a mebibyte of nought":                 strings.Repeat("\x00", 1<<20),
	} {
		if !isBad(s) {
			m, err := Read(s)
			t.Errorf("Read of %s: %s, %d", what, told(m), err)
		}
	}
}

// TestReadShort goes over all texts of up to four of some bytes behind beginnings of messages.
func TestReadShort(t *testing.T) {
	var goOver func(s string, more int)
	goOver = func(s string, more int) {
		checkRead(t, s)
		if more == 0 {
			return
		}
		for _, b := range []byte{0, 1, 2, 3, 4, 5, 10, 48, 66, 74, 80, 127, 128, 255} {
			goOver(s+string([]byte{b}), more-1)
		}
	}
	for _, s := range []string{"", "\x30\x05\x02\x01", "\x30\x06\x02\x01\x01", "\x30\x06\x02\x02", "\x30\x0e\x02\x01\x01\x42\x00\xa0\x07\x30\x05", "\x30\x0c\x02\x01\x01\x65\x07\x0a\x01"} {
		goOver(s, 4)
	}
}

// FuzzRead holds Read of whatever bytes against isMessage.
func FuzzRead(f *testing.F) {
	for _, m := range some() {
		f.Add(coded(m))
	}
	f.Fuzz(func(t *testing.T, s string) {
		isOne := isMessage(s)
		m, err := Read(s)
		if !isOne && (err != api.ErrForm || !isZero(m)) || isOne && (err != api.OK || plainCheck(m) != api.OK) {
			t.Fatalf("Read of %q: %s, %d", s, told(m), err)
		}
		if again, err := Put(m); isOne && (err != api.OK || again != s) {
			t.Fatalf("Put of what is read of %q: %q, %d", s, again, err)
		}
	})
}
