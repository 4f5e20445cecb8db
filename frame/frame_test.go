package frame

import (
	"math"
	"slices"
	"strings"
	"testing"

	"bothy/api"
	"bothy/ber"
)

// made tells a new framer.
func made(t *testing.T, most int) *Framer {
	t.Helper()
	f, err := New(most)
	if err != api.OK || f == nil {
		t.Fatalf("New of %d: error %d", most, err)
	}
	return f
}

// put tells a message with a body of n bytes; its length is ber's.
func put(t *testing.T, n int) string {
	t.Helper()
	body := make([]byte, n)
	for i := range body {
		body[i] = byte(i*7 + i>>8)
	}
	s, err := ber.Put(48, string(body))
	if err != api.OK {
		t.Fatalf("Put of %d bytes: error %d", n, err)
	}
	return s
}

// taken tells all messages that f tells, one after another.
func taken(f *Framer) []string {
	var list []string
	for {
		s, ok := f.Next()
		if !ok {
			return list
		}
		list = append(list, s)
	}
}

// holdNoNext holds that f tells no message.
func holdNoNext(t *testing.T, f *Framer) {
	t.Helper()
	if s, ok := f.Next(); ok || s != "" {
		t.Errorf("Next: %q, %t", s, ok)
	}
}

// holdState holds which error there is, and how many bytes are left.
func holdState(t *testing.T, f *Framer, err api.Errno, left int) {
	t.Helper()
	if got := f.Err(); got != err {
		t.Errorf("Err: %d, not %d", got, err)
	}
	if got := f.Left(); got != left {
		t.Errorf("Left: %d, not %d", got, left)
	}
}

func TestNew(t *testing.T) {
	for _, most := range []int{1, 2, 127, 128, 1000, api.MaxBody - 1, api.MaxBody} {
		f := made(t, most)
		holdState(t, f, api.OK, 0)
		holdNoNext(t, f)
		holdState(t, f, api.OK, 0)
	}
	for _, most := range []int{0, -1, -2, -api.MaxBody, api.MaxBody + 1, 1 << 20, 1<<32 + 1, math.MinInt, math.MaxInt} {
		if f, err := New(most); f != nil || err != api.ErrArg {
			t.Errorf("New of %d: %v, %d", most, f, err)
		}
	}
}

func TestNil(t *testing.T) {
	var f *Framer
	for range 2 {
		holdState(t, f, api.ErrNil, 0)
		holdNoNext(t, f)
		f.Feed("\x30\x00")
		f.Feed("\x31")
	}
}

// rows are rows of bytes that come at once, the messages in them, and the error and how many bytes are left behind these, written out by hand.
var rows = []struct {
	most int
	s    string
	want []string
	err  api.Errno
	left int
}{
	{100, "", nil, api.OK, 0},
	{100, "\x30\x00", []string{"\x30\x00"}, api.OK, 0},
	{100, "\x30\x00\x30\x00", []string{"\x30\x00", "\x30\x00"}, api.OK, 0},
	{100, "\x30\x00\x30", []string{"\x30\x00"}, api.OK, 1},
	{100, "\x30\x01\x05\x30\x02ab", []string{"\x30\x01\x05", "\x30\x02ab"}, api.OK, 0},
	// Whatever a body is.
	{100, "\x30\x03\x31\x80\xff", []string{"\x30\x03\x31\x80\xff"}, api.OK, 0},
	{100, "\x30\x02\x30\x05", []string{"\x30\x02\x30\x05"}, api.OK, 0},
	// What is not whole.
	{100, "\x30", nil, api.OK, 1},
	{100, "\x30\x01", nil, api.OK, 2},
	{100, "\x30\x02a", nil, api.OK, 3},
	{100, "\x30\x02\x31", nil, api.OK, 3},
	{100, "\x30\x64" + "abc", nil, api.OK, 5},
	{100, "\x30\x81", nil, api.OK, 2},
	{100, "\x30\x00\x30\x01\x05\x30\x02a", []string{"\x30\x00", "\x30\x01\x05"}, api.OK, 3},
	{300, "\x30\x82\x01", nil, api.OK, 3},
	{300, "\x30\x81\x80" + strings.Repeat("x", 127), nil, api.OK, 130},
	{300, "\x30\x81\x80" + strings.Repeat("x", 128), []string{"\x30\x81\x80" + strings.Repeat("x", 128)}, api.OK, 0},
	// A length that lacks bytes is not wrong yet, whatever it has.
	{1, "\x30\x81", nil, api.OK, 2},
	{1, "\x30\x82\xff", nil, api.OK, 3},
	{1, "\x30\x83\x00\x00", nil, api.OK, 4},
	{1, "\x30\x84\xff\xff\xff", nil, api.OK, 5},
	// Another tag, at the beginning and behind messages.
	{100, "\x31", nil, api.ErrTag, 1},
	{100, "\x31\x00", nil, api.ErrTag, 2},
	{100, "\x31\x30\x00", nil, api.ErrTag, 3},
	{100, "\x00", nil, api.ErrTag, 1},
	{100, "\x1f\x80", nil, api.ErrTag, 2},
	{100, "\x30\x00\x31", []string{"\x30\x00"}, api.ErrTag, 1},
	{100, "\x30\x00\x30\x00\x04\x00\x30\x00", []string{"\x30\x00", "\x30\x00"}, api.ErrTag, 4},
	{100, "\x30\x01\x05\x31\x30\x00", []string{"\x30\x01\x05"}, api.ErrTag, 3},
	// Another tag is told ahead of a length that is wrong.
	{1, "\x31\x80", nil, api.ErrTag, 2},
	{1, "\x31\x05", nil, api.ErrTag, 2},
	{1, "\x04\x83\x01\x00\x01", nil, api.ErrTag, 5},
	// A length that is none, or not as short as can be.
	{100, "\x30\x80", nil, api.ErrForm, 2},
	{100, "\x30\x80\x00\x00", nil, api.ErrForm, 4},
	{100, "\x30\x85", nil, api.ErrForm, 2},
	{100, "\x30\xff\x00", nil, api.ErrForm, 3},
	{100, "\x30\x81\x01\x05", nil, api.ErrForm, 4},
	{100, "\x30\x82\x00\xff", nil, api.ErrForm, 4},
	{100, "\x30\x84\x00\x00\x00\x00", nil, api.ErrForm, 6},
	{100, "\x30\x00\x30\x81\x7f", []string{"\x30\x00"}, api.ErrForm, 3},
	{100, "\x30\x00\x30\x80\x30\x00", []string{"\x30\x00"}, api.ErrForm, 4},
	// It is told ahead of one above most.
	{1, "\x30\x81\x05", nil, api.ErrForm, 3},
	{1, "\x30\x84\x00\x01\x00\x01", nil, api.ErrForm, 6},
	// A length above most, or above all.
	{100, "\x30\x65", nil, api.ErrLong, 2},
	{100, "\x30\x65" + strings.Repeat("x", 101), nil, api.ErrLong, 103},
	{100, "\x30\x7f", nil, api.ErrLong, 2},
	{100, "\x30\x81\x80", nil, api.ErrLong, 3},
	{100, "\x30\x83\x01\x00\x01", nil, api.ErrLong, 5},
	{100, "\x30\x84\xff\xff\xff\xff", nil, api.ErrLong, 6},
	{1, "\x30\x02", nil, api.ErrLong, 2},
	{1, "\x30\x01\x05\x30\x02ab\x30\x00", []string{"\x30\x01\x05"}, api.ErrLong, 6},
	{api.MaxBody, "\x30\x83\x01\x00\x00", nil, api.OK, 5},
	{api.MaxBody, "\x30\x83\x01\x00\x01", nil, api.ErrLong, 5},
	{api.MaxBody - 1, "\x30\x82\xff\xff", nil, api.OK, 4},
	{api.MaxBody - 1, "\x30\x83\x01\x00\x00", nil, api.ErrLong, 5},
}

func TestRows(t *testing.T) {
	for _, r := range rows {
		f := made(t, r.most)
		f.Feed(r.s)
		if got := f.Left(); got != len(r.s) {
			t.Errorf("Left behind Feed of %q: %d", r.s, got)
		}
		if got := taken(f); !slices.Equal(got, r.want) {
			t.Errorf("messages of %q: %q", r.s, got)
		}
		if f.Err() != r.err || f.Left() != r.left {
			t.Errorf("behind the messages of %q: error %d, %d left", r.s, f.Err(), f.Left())
		}
	}
}

// TestPieces goes over all ways in which the rows come in three pieces, asked between them or not, and a byte at a time.
func TestPieces(t *testing.T) {
	for _, r := range rows {
		for i := range len(r.s) + 1 {
			for j := i; j <= len(r.s); j++ {
				holdPieces(t, r.most, r.want, r.err, r.left, r.s[:i], r.s[i:j], r.s[j:])
			}
		}
		holdPieces(t, r.most, r.want, r.err, r.left, strings.Split(r.s, "")...)
	}
}

// holdPieces holds what pieces tell. Behind an error what still comes is not there: there just the same error is asked.
func holdPieces(t *testing.T, most int, want []string, err api.Errno, left int, pieces ...string) {
	t.Helper()
	for _, asked := range []bool{false, true} {
		f := made(t, most)
		var got []string
		for _, s := range pieces {
			f.Feed(s)
			if asked {
				got = append(got, taken(f)...)
			}
		}
		got = append(got, taken(f)...)
		if !slices.Equal(got, want) || f.Err() != err {
			t.Fatalf("%q, asked between %t: %q, error %d", pieces, asked, got, f.Err())
		}
		if f.Left() != left && (err == api.OK || f.Left() > left) {
			t.Fatalf("%q, asked between %t: %d left", pieces, asked, f.Left())
		}
	}
}

// TestErrAtOnce holds that an error is told with the last of these bytes, without a Next, and not a byte ahead of it.
func TestErrAtOnce(t *testing.T) {
	cases := []struct {
		most int
		s    string
		err  api.Errno
	}{
		{100, "\x00", api.ErrTag},
		{100, "\x04", api.ErrTag},
		{100, "\x10", api.ErrTag},
		{100, "\x1f", api.ErrTag},
		{100, "\x2f", api.ErrTag},
		{100, "\x31", api.ErrTag},
		{100, "\x70", api.ErrTag},
		{100, "\xb0", api.ErrTag},
		{100, "\xff", api.ErrTag},
		{100, "\x30\x80", api.ErrForm},
		{100, "\x30\x85", api.ErrForm},
		{100, "\x30\xff", api.ErrForm},
		{100, "\x30\x81\x00", api.ErrForm},
		{100, "\x30\x81\x7f", api.ErrForm},
		{100, "\x30\x82\x00\x80", api.ErrForm},
		{100, "\x30\x83\x00\xff\xff", api.ErrForm},
		{100, "\x30\x84\x00\x01\x00\x00", api.ErrForm},
		{100, "\x30\x65", api.ErrLong},
		{127, "\x30\x81\x80", api.ErrLong},
		{128, "\x30\x81\x81", api.ErrLong},
		{255, "\x30\x82\x01\x00", api.ErrLong},
		{256, "\x30\x82\x01\x01", api.ErrLong},
		{api.MaxBody - 2, "\x30\x82\xff\xff", api.ErrLong},
		{api.MaxBody - 1, "\x30\x83\x01\x00\x00", api.ErrLong},
		{api.MaxBody, "\x30\x83\x01\x00\x01", api.ErrLong},
		{api.MaxBody, "\x30\x84\x01\x00\x00\x00", api.ErrLong},
		{api.MaxBody, "\x30\x84\x80\x00\x00\x00", api.ErrLong},
	}
	for _, c := range cases {
		f := made(t, c.most)
		for i := range len(c.s) {
			holdState(t, f, api.OK, i)
			f.Feed(c.s[i : i+1])
		}
		holdState(t, f, c.err, len(c.s))
		f = made(t, c.most)
		f.Feed(c.s[:len(c.s)-1])
		holdNoNext(t, f)
		holdState(t, f, api.OK, len(c.s)-1)
	}
}

// TestErrBehindMessages holds that what is wrong behind messages is told as soon as the last one of them is taken.
func TestErrBehindMessages(t *testing.T) {
	wrong := []struct {
		s   string
		err api.Errno
	}{
		{"\x31", api.ErrTag},
		{"\x30\x80", api.ErrForm},
		{"\x30\x65", api.ErrLong},
		{"\x31\x30\x00", api.ErrTag},
	}
	for _, w := range wrong {
		for _, pieces := range [][]string{
			{"\x30\x00\x30\x01\x05" + w.s},
			{"\x30\x00", "\x30\x01\x05", w.s},
			{"\x30\x00\x30\x01", "\x05" + w.s},
		} {
			f := made(t, 100)
			for _, s := range pieces {
				f.Feed(s)
			}
			holdState(t, f, api.OK, 5+len(w.s))
			if s, ok := f.Next(); !ok || s != "\x30\x00" {
				t.Errorf("first Next: %q, %t", s, ok)
			}
			holdState(t, f, api.OK, 3+len(w.s))
			if s, ok := f.Next(); !ok || s != "\x30\x01\x05" {
				t.Errorf("second Next: %q, %t", s, ok)
			}
			holdState(t, f, w.err, len(w.s))
			holdNoNext(t, f)
			holdState(t, f, w.err, len(w.s))
		}
	}
}

// TestErrStays holds that nothing happens behind an error.
func TestErrStays(t *testing.T) {
	for _, r := range rows {
		if r.err == api.OK {
			continue
		}
		f := made(t, r.most)
		f.Feed(r.s)
		taken(f)
		for _, s := range []string{"", "\x30\x00", "\x31", "\x30\x80", "\x30\x7f", put(t, 1000)} {
			f.Feed(s)
			holdState(t, f, r.err, r.left)
			holdNoNext(t, f)
			holdState(t, f, r.err, r.left)
		}
	}
}

func TestTags(t *testing.T) {
	for tag := range 256 {
		f := made(t, 100)
		f.Feed(string([]byte{byte(tag)}))
		if want := f.Err() == api.OK; want != (tag == 48) || !want && f.Err() != api.ErrTag {
			t.Errorf("a first byte %d: error %d", tag, f.Err())
		}
	}
}

// TestMost holds that bodies of most bytes are taken, and longer ones not.
func TestMost(t *testing.T) {
	edges := []int{1, 2, 126, 127, 128, 129, 255, 256, 257, 1000, api.MaxBody - 1, api.MaxBody}
	for _, most := range edges {
		for _, n := range append([]int{0}, edges...) {
			s := put(t, n)
			f := made(t, most)
			f.Feed(s[:len(s)-n/2])
			if n > most {
				holdState(t, f, api.ErrLong, len(s)-n/2)
				holdNoNext(t, f)
				continue
			}
			if n > 1 {
				holdNoNext(t, f)
			}
			f.Feed(s[len(s)-n/2:] + "\x30")
			holdState(t, f, api.OK, len(s)+1)
			if got, ok := f.Next(); !ok || got != s {
				t.Errorf("%d bytes, most %d: %d bytes, %t", n, most, len(got), ok)
			}
			holdState(t, f, api.OK, 1)
		}
	}
}

func TestNothingComes(t *testing.T) {
	f := made(t, 100)
	f.Feed("")
	holdState(t, f, api.OK, 0)
	f.Feed("\x30\x01")
	f.Feed("")
	holdState(t, f, api.OK, 2)
	holdNoNext(t, f)
	f.Feed("\x05")
	f.Feed("")
	if s, ok := f.Next(); !ok || s != "\x30\x01\x05" {
		t.Errorf("Next: %q, %t", s, ok)
	}
}

// TestTwo holds that what comes to one framer is nothing to another.
func TestTwo(t *testing.T) {
	f, g := made(t, 100), made(t, 1)
	f.Feed("\x30\x02a")
	g.Feed("\x30\x01")
	f.Feed("b\x30")
	g.Feed("c\x31")
	if s, ok := g.Next(); !ok || s != "\x30\x01c" {
		t.Errorf("the second one's Next: %q, %t", s, ok)
	}
	if s, ok := f.Next(); !ok || s != "\x30\x02ab" {
		t.Errorf("the first one's Next: %q, %t", s, ok)
	}
	holdState(t, f, api.OK, 1)
	holdState(t, g, api.ErrTag, 1)
}

// plain says 4.1 word by word.
type plain struct {
	most int
	left string
	err  api.Errno
}

func (p *plain) ask() {
	_, n, _, err := ber.Head(p.left)
	switch {
	case p.left != "" && p.left[0] != 48:
		p.err = api.ErrTag
	case err != api.OK && err != api.ErrCut:
		p.err = err
	case err == api.OK && n > p.most:
		p.err = api.ErrLong
	}
}

func (p *plain) feed(s string) {
	if p.err != api.OK {
		return
	}
	p.left += s
	p.ask()
}

func (p *plain) next() (string, bool) {
	one, size, err := ber.Read(p.left)
	if p.err != api.OK || err != api.OK || one.Tag != 48 || len(one.Body) > p.most {
		return "", false
	}
	s := p.left[:size]
	p.left = p.left[size:]
	p.ask()
	return s, true
}

// holdPlain holds that f and p answer the same, and whether they told a message.
func holdPlain(t *testing.T, f *Framer, p *plain, about string) bool {
	t.Helper()
	if f.Err() != p.err || f.Left() != len(p.left) {
		t.Fatalf("%q: error %d, %d left, not %d, %d", about, f.Err(), f.Left(), p.err, len(p.left))
	}
	got, ok := f.Next()
	want, is := p.next()
	if got != want || ok != is {
		t.Fatalf("%q: Next: %q, %t, not %q, %t", about, got, ok, want, is)
	}
	if f.Err() != p.err || f.Left() != len(p.left) {
		t.Fatalf("%q, behind Next: error %d, %d left, not %d, %d", about, f.Err(), f.Left(), p.err, len(p.left))
	}
	return ok
}

// TestShort goes over all rows of up to six of some bytes, cut once, and at once behind some that are whole.
func TestShort(t *testing.T) {
	some := []byte{48, 0, 1, 2, 49, 128, 129, 130}
	hold := func(most int, pieces ...string) {
		f, p := made(t, most), &plain{most: most}
		for _, s := range pieces {
			f.Feed(s)
			p.feed(s)
			holdPlain(t, f, p, s)
		}
		for holdPlain(t, f, p, pieces[len(pieces)-1]) {
		}
	}
	var goOver func(s []byte, more int)
	goOver = func(s []byte, more int) {
		row := string(s)
		for i := range len(s) + 1 {
			hold(1, row[:i], row[i:])
		}
		hold(200, row)
		hold(1, "\x30\x01a\x30\x00"+row)
		if more == 0 {
			return
		}
		for _, b := range some {
			goOver(append(s, b), more-1)
		}
	}
	goOver(nil, 5)
	goOver([]byte{48}, 5)
}

// TestLengths goes over lengths around the edges, with a byte more at a time.
func TestLengths(t *testing.T) {
	for _, most := range []int{1, 127, 128, 255, 256, api.MaxBody} {
		for _, bytes := range []string{
			"\x30\x00", "\x30\x01", "\x30\x7f", "\x30\x81\x7f", "\x30\x81\x80", "\x30\x81\xff", "\x30\x82\x00\xff", "\x30\x82\x01\x00",
			"\x30\x82\xff\xff", "\x30\x83\x00\xff\xff", "\x30\x83\x01\x00\x00", "\x30\x83\x01\x00\x01", "\x30\x84\x00\x01\x00\x00",
			"\x30\x84\x7f\xff\xff\xff", "\x30\x84\x80\x00\x00\x00", "\x30\x84\xff\xff\xff\xff",
		} {
			f, p := made(t, most), &plain{most: most}
			for _, s := range strings.Split(bytes+strings.Repeat("0", 300), "") {
				f.Feed(s)
				p.feed(s)
				holdPlain(t, f, p, bytes)
			}
		}
	}
}

// TestManySizes goes over messages of many sizes in pieces of many sizes, asked now and then.
func TestManySizes(t *testing.T) {
	var row strings.Builder
	for i := range 100 {
		row.WriteString(put(t, i*i%701))
	}
	for _, step := range []int{1, 2, 3, 7, 100, 1000, 10007, row.Len()} {
		for _, every := range []int{1, 2, 5, 50, 1 << 30} {
			f, p := made(t, 700), &plain{most: 700}
			n := 0
			for s := row.String() + "\x31"; s != ""; n++ {
				cut := min(step, len(s))
				f.Feed(s[:cut])
				p.feed(s[:cut])
				s = s[cut:]
				if n%every == 0 {
					holdPlain(t, f, p, "many sizes")
				}
			}
			for holdPlain(t, f, p, "many sizes") {
			}
			holdState(t, f, api.ErrTag, 1)
		}
	}
}

// TestMuch goes over a long row: minutes pass where each message, or each byte, makes all that is left be gone over.
func TestMuch(t *testing.T) {
	const count = 1 << 20
	row := strings.Repeat("\x30\x00", count)
	f := made(t, 1)
	f.Feed(row)
	if got := len(taken(f)); got != count {
		t.Errorf("at once: %d messages", got)
	}
	holdState(t, f, api.OK, 0)
	for i := range len(row) {
		f.Feed(row[i : i+1])
	}
	holdState(t, f, api.OK, len(row))
	if got := len(taken(f)); got != count {
		t.Errorf("a byte at a time: %d messages", got)
	}
	holdState(t, f, api.OK, 0)
}

// TestForgotten holds that memory of what was taken is not kept.
func TestForgotten(t *testing.T) {
	f := made(t, 100)
	f.Feed(strings.Repeat(put(t, 100), 1<<12) + "\x30")
	taken(f)
	holdState(t, f, api.OK, 1)
	if got := cap(f.left) + f.gone; got > 1000 {
		t.Errorf("a byte is left, of %d that are kept", got)
	}
}
