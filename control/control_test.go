package control

import (
	"math"
	"slices"
	"strconv"
	"strings"
	"testing"

	"bothy/api"
)

// oid is that of the control that says that a search goes on, written out anew.
const oid = "2.16.840.1.113730.3.4.3"

// most is the longest text that an old name may be.
var most = strings.Repeat("o", 4096)

// wrapped tells a tag, the shortest length of body, and body.
func wrapped(tag byte, body string) string {
	n := len(body)
	switch {
	case n < 1<<7:
		return string([]byte{tag, byte(n)}) + body
	case n < 1<<8:
		return string([]byte{tag, 0x81, byte(n)}) + body
	}
	return string([]byte{tag, 0x82, byte(n >> 8), byte(n)}) + body
}

// numbered tells a number that isn't below 0 in as few bytes as can be.
func numbered(n int) string {
	out := []byte{byte(n)}
	for n >>= 8; n > 0; n >>= 8 {
		out = append([]byte{byte(n)}, out...)
	}
	if out[0] > 127 {
		out = append([]byte{0}, out...)
	}
	return string(out)
}

// codedPersist tells the bytes of p in the chapter's words, whatever p has.
func codedPersist(p api.Persist) string {
	truth := map[bool]string{false: "\x00", true: "\xff"}
	return wrapped(48, wrapped(2, numbered(p.Types))+wrapped(1, truth[p.ChangesOnly])+wrapped(1, truth[p.ReturnECs]))
}

// codedNotice tells the bytes of n in the chapter's words, whatever n has.
func codedNotice(n api.Notice) string {
	old := ""
	if n.Old != "" {
		old = wrapped(4, n.Old)
	}
	return wrapped(48, wrapped(10, numbered(n.Kind))+old+wrapped(2, numbered(n.N)))
}

// persists tells all that may be asked for.
func persists() []api.Persist {
	var list []api.Persist
	for types := 1; types <= 15; types++ {
		for i := range 4 {
			list = append(list, api.Persist{Types: types, ChangesOnly: i%2 == 1, ReturnECs: i/2 == 1})
		}
	}
	return list
}

// spoilt tells s with a byte less, with one byte more, and with one byte that is another one, and each beginning of it.
func spoilt(s string) []string {
	list := []string{s + s}
	for i := range len(s) + 1 {
		list = append(list, s[:i])
		for c := range 256 {
			b := string([]byte{byte(c)})
			list = append(list, s[:i]+b+s[i:])
			if i < len(s) {
				list = append(list, s[:i]+b+s[i+1:])
			}
		}
		if i < len(s) {
			list = append(list, s[:i]+s[i+1:], s[i:])
		}
	}
	return list
}

// short goes over all texts of up to more of some bytes behind s.
func short(s string, more int, do func(string)) {
	do(s)
	if more == 0 {
		return
	}
	for _, b := range []byte{0, 1, 2, 4, 8, 10, 48, 127, 128, 255} {
		short(s+string([]byte{b}), more-1, do)
	}
}

func TestCheck(t *testing.T) {
	value := strings.Repeat("v", 1024)
	for _, c := range []struct {
		oid, value string
		want       api.Errno
	}{
		{oid, "", api.OK},
		{"2.16.840.1.113730.3.4.7", "x", api.OK},
		{"1", "", api.OK},
		{"0123456789", "", api.OK},
		// Digits and points in whatever order.
		{".", "", api.OK},
		{"..", "", api.OK},
		{".1", "", api.OK},
		{"1.", "", api.OK},
		{"1..2", "", api.OK},
		{"01.002", "", api.OK},
		{strings.Repeat("1", 63), "", api.OK},
		{strings.Repeat("1", 64), "", api.OK},
		{strings.Repeat(".9", 32), "", api.OK},
		{strings.Repeat("1", 65), "", api.ErrName},
		{strings.Repeat(".", 65), "", api.ErrName},
		{strings.Repeat("1", 1<<16), "", api.ErrName},
		{"", "", api.ErrName},
		{"a", "", api.ErrName},
		{"1a", "", api.ErrName},
		{"a1", "", api.ErrName},
		{"1a1", "", api.ErrName},
		{"1.2,3", "", api.ErrName},
		{"1 ", "", api.ErrName},
		{" 1", "", api.ErrName},
		{"-1", "", api.ErrName},
		{"1\n", "", api.ErrName},
		{"1\x00", "", api.ErrName},
		{"\xff", "", api.ErrName},
		{"1\u0661", "", api.ErrName},
		{"\uff11", "", api.ErrName},
		{"cn", "", api.ErrName},
		{"1", value[1:], api.OK},
		{"1", value, api.OK},
		{"1", strings.Repeat("\xff", 1024), api.OK},
		{"1", value + "v", api.ErrLong},
		{oid, strings.Repeat(value, 1<<10), api.ErrLong},
		// Letters are counted as bytes.
		{"1", strings.Repeat("\u00e4", 512), api.OK},
		{"1", strings.Repeat("\u00e4", 513), api.ErrLong},
		// What is wrong with the OID is told first.
		{"", value + "v", api.ErrName},
		{"a", value + "v", api.ErrName},
		{strings.Repeat("1", 65), value + "v", api.ErrName},
		// The value's bytes are not looked at.
		{oid, "x", api.OK},
		{oid, codedPersist(api.Persist{Types: 1}), api.OK},
	} {
		for _, critical := range []bool{false, true} {
			if err := Check(api.Control{OID: c.oid, Critical: critical, Value: c.value}); err != c.want {
				t.Errorf("Check of %q, %t, %d bytes: %d", c.oid, critical, len(c.value), err)
			}
		}
	}
}

// TestCheckBytes goes over each byte, at each place of an OID.
func TestCheckBytes(t *testing.T) {
	for c := range 256 {
		want := api.ErrName
		if c >= '0' && c <= '9' || c == '.' {
			want = api.OK
		}
		b := string([]byte{byte(c)})
		for _, s := range []string{b, b + "1.2", "1." + b, "1" + b + "2", "1" + b, b + b, strings.Repeat("1", 63) + b} {
			if err := Check(api.Control{OID: s}); err != want {
				t.Errorf("Check of %q: %d", s, err)
			}
		}
		if err := Check(api.Control{OID: strings.Repeat("1", 64) + b}); err != api.ErrName {
			t.Errorf("Check of 65 bytes, the last one %q: %d", b, err)
		}
	}
}

// codedPersists are persists and their bytes written out by hand.
var codedPersists = []struct {
	p api.Persist
	s string
}{
	{api.Persist{Types: 1, ReturnECs: true}, "\x30\x09\x02\x01\x01\x01\x01\x00\x01\x01\xff"},
	{api.Persist{Types: 1, ChangesOnly: true}, "\x30\x09\x02\x01\x01\x01\x01\xff\x01\x01\x00"},
	{api.Persist{Types: 2}, "\x30\x09\x02\x01\x02\x01\x01\x00\x01\x01\x00"},
	{api.Persist{Types: 7, ReturnECs: true}, "\x30\x09\x02\x01\x07\x01\x01\x00\x01\x01\xff"},
	{api.Persist{Types: 8}, "\x30\x09\x02\x01\x08\x01\x01\x00\x01\x01\x00"},
	{api.Persist{Types: 15, ChangesOnly: true, ReturnECs: true}, "\x30\x09\x02\x01\x0f\x01\x01\xff\x01\x01\xff"},
}

func TestPersist(t *testing.T) {
	for _, c := range codedPersists {
		if s, err := PutPersist(c.p); err != api.OK || s != c.s {
			t.Errorf("PutPersist of %v: %q, %d", c.p, s, err)
		}
		if p, err := ReadPersist(c.s); err != api.OK || p != c.p {
			t.Errorf("ReadPersist of %q: %v, %d", c.s, p, err)
		}
	}
	for _, p := range persists() {
		want := codedPersist(p)
		if s, err := PutPersist(p); err != api.OK || s != want {
			t.Errorf("PutPersist of %v: %q, %d", p, s, err)
		}
		if q, err := ReadPersist(want); err != api.OK || q != p {
			t.Errorf("ReadPersist of %q: %v, %d", want, q, err)
		}
	}
}

func TestPutPersistRange(t *testing.T) {
	for _, types := range []int{0, -1, -2, -15, -16, 16, 17, 24, 31, 32, 127, 128, 255, 256, 257, 256 + 15, -255, 1<<16 + 1, math.MaxInt32, math.MinInt32, math.MinInt32 + 1, math.MaxInt, math.MinInt, math.MinInt + 1} {
		for i := range 4 {
			p := api.Persist{Types: types, ChangesOnly: i%2 == 1, ReturnECs: i/2 == 1}
			if s, err := PutPersist(p); err != api.ErrRange || s != "" {
				t.Errorf("PutPersist of %v: %q, %d", p, s, err)
			}
		}
	}
}

// isNoPersist tells whether ReadPersist tells of s that it is none.
func isNoPersist(s string) bool {
	p, err := ReadPersist(s)
	return err == api.ErrForm && p == (api.Persist{})
}

func TestReadPersistWrong(t *testing.T) {
	for _, s := range []string{
		"",
		"x",
		"\x30",
		"\x30\x00",
		"\x30\x01\x1f",
		"\x1f\x00",
		// Types that may not be, and such that are not as short as can be.
		"\x30\x09\x02\x01\x00\x01\x01\x00\x01\x01\x00",
		"\x30\x09\x02\x01\x10\x01\x01\x00\x01\x01\x00",
		"\x30\x09\x02\x01\xff\x01\x01\x00\x01\x01\x00",
		"\x30\x0a\x02\x02\x00\x01\x01\x01\x00\x01\x01\x00",
		"\x30\x0a\x02\x02\x01\x01\x01\x01\x00\x01\x01\x00",
		"\x30\x08\x02\x00\x01\x01\x00\x01\x01\x00",
		"\x30\x0d\x02\x05\x01\x00\x00\x00\x01\x01\x01\x00\x01\x01\x00",
		// Truths that are none.
		"\x30\x09\x02\x01\x01\x01\x01\x01\x01\x01\x00",
		"\x30\x09\x02\x01\x01\x01\x01\x00\x01\x01\xfe",
		"\x30\x08\x02\x01\x01\x01\x00\x01\x01\x00",
		"\x30\x0a\x02\x01\x01\x01\x02\xff\xff\x01\x01\x00",
		"\x30\x0a\x02\x01\x01\x01\x01\x00\x01\x02\x00\x00",
		// Fewer parts, more parts, and parts in another order.
		"\x30\x03\x02\x01\x01",
		"\x30\x06\x02\x01\x01\x01\x01\x00",
		"\x30\x06\x01\x01\x00\x01\x01\x00",
		"\x30\x0c\x02\x01\x01\x01\x01\x00\x01\x01\x00\x01\x01\x00",
		"\x30\x0b\x02\x01\x01\x01\x01\x00\x01\x01\x00\x04\x00",
		"\x30\x09\x01\x01\x00\x02\x01\x01\x01\x01\x00",
		"\x30\x09\x01\x01\x00\x01\x01\x00\x02\x01\x01",
		// Other tags.
		"\x31\x09\x02\x01\x01\x01\x01\x00\x01\x01\x00",
		"\x10\x09\x02\x01\x01\x01\x01\x00\x01\x01\x00",
		"\x30\x09\x0a\x01\x01\x01\x01\x00\x01\x01\x00",
		"\x30\x09\x02\x01\x01\x02\x01\x00\x01\x01\x00",
		"\x30\x09\x02\x01\x01\x01\x01\x00\x0a\x01\x00",
		// Lengths that are not as short as can be.
		"\x30\x81\x09\x02\x01\x01\x01\x01\x00\x01\x01\x00",
		"\x30\x0a\x02\x81\x01\x01\x01\x01\x00\x01\x01\x00",
		"\x30\x80\x02\x01\x01\x01\x01\x00\x01\x01\x00\x00\x00",
		// A byte behind it, or one ahead, or within another.
		"\x30\x09\x02\x01\x01\x01\x01\x00\x01\x01\x00\x00",
		"\x00\x30\x09\x02\x01\x01\x01\x01\x00\x01\x01\x00",
		"\x30\x0b\x30\x09\x02\x01\x01\x01\x01\x00\x01\x01\x00",
		"\x04\x0b\x30\x09\x02\x01\x01\x01\x01\x00\x01\x01\x00",
		// A notice.
		"\x30\x06\x0a\x01\x08\x02\x01\x05",
		strings.Repeat("\x30", 1<<20),
		wrapped(48, strings.Repeat("\x01\x00", 1025)),
	} {
		if !isNoPersist(s) {
			t.Errorf("ReadPersist of %q: it is one", s)
		}
	}
}

// TestReadPersistSpoilt holds ReadPersist of bytes like those of a persist, and of short ones, against all there are.
func TestReadPersistSpoilt(t *testing.T) {
	all := map[string]api.Persist{}
	for _, p := range persists() {
		all[codedPersist(p)] = p
	}
	check := func(s string) {
		p, isOne := all[s]
		if !isOne {
			if !isNoPersist(s) {
				t.Fatalf("ReadPersist of %q: it is one", s)
			}
			return
		}
		if q, err := ReadPersist(s); err != api.OK || p != q {
			t.Fatalf("ReadPersist of %q: %v, %d", s, q, err)
		}
	}
	for s := range all {
		for _, other := range spoilt(s) {
			check(other)
		}
	}
	short("", 4, check)
	short("\x30\x09\x02\x01", 1, func(s string) {
		short(s+"\x01", 2, func(s string) { short(s+"\x01\x01", 2, check) })
	})
}

// codedNotices are notices and their bytes written out by hand.
var codedNotices = []struct {
	n api.Notice
	s string
}{
	{api.Notice{Kind: api.ChangeRename, Old: "a", N: 5}, "\x30\x09\x0a\x01\x08\x04\x01a\x02\x01\x05"},
	{api.Notice{Kind: api.ChangeAdd}, "\x30\x06\x0a\x01\x01\x02\x01\x00"},
	{api.Notice{Kind: api.ChangeAdd, N: 1}, "\x30\x06\x0a\x01\x01\x02\x01\x01"},
	{api.Notice{Kind: api.ChangeDelete, N: 127}, "\x30\x06\x0a\x01\x02\x02\x01\x7f"},
	{api.Notice{Kind: api.ChangeModify, N: 128}, "\x30\x07\x0a\x01\x04\x02\x02\x00\x80"},
	{api.Notice{Kind: api.ChangeRename, N: 255}, "\x30\x07\x0a\x01\x08\x02\x02\x00\xff"},
	{api.Notice{Kind: api.ChangeRename, N: 256}, "\x30\x07\x0a\x01\x08\x02\x02\x01\x00"},
	{api.Notice{Kind: api.ChangeAdd, N: 32767}, "\x30\x07\x0a\x01\x01\x02\x02\x7f\xff"},
	{api.Notice{Kind: api.ChangeAdd, N: 32768}, "\x30\x08\x0a\x01\x01\x02\x03\x00\x80\x00"},
	{api.Notice{Kind: api.ChangeAdd, N: 1<<23 - 1}, "\x30\x08\x0a\x01\x01\x02\x03\x7f\xff\xff"},
	{api.Notice{Kind: api.ChangeAdd, N: 1 << 23}, "\x30\x09\x0a\x01\x01\x02\x04\x00\x80\x00\x00"},
	{api.Notice{Kind: api.ChangeAdd, N: api.MaxNum}, "\x30\x09\x0a\x01\x01\x02\x04\x7f\xff\xff\xff"},
	// An old name may stand beside whatever kind, and be whatever text.
	{api.Notice{Kind: api.ChangeAdd, Old: "cn=a,dc=b", N: 2}, "\x30\x11\x0a\x01\x01\x04\x09cn=a,dc=b\x02\x01\x02"},
	{api.Notice{Kind: api.ChangeDelete, Old: "\x00"}, "\x30\x09\x0a\x01\x02\x04\x01\x00\x02\x01\x00"},
	{api.Notice{Kind: api.ChangeModify, Old: " \xff\x80"}, "\x30\x0b\x0a\x01\x04\x04\x03 \xff\x80\x02\x01\x00"},
	{api.Notice{Kind: api.ChangeRename, Old: "\x02\x01\x05", N: 7}, "\x30\x0b\x0a\x01\x08\x04\x03\x02\x01\x05\x02\x01\x07"},
	{api.Notice{Kind: api.ChangeRename, Old: most[:117]}, "\x30\x7d\x0a\x01\x08\x04\x75" + most[:117] + "\x02\x01\x00"},
	{api.Notice{Kind: api.ChangeRename, Old: most[:119]}, "\x30\x7f\x0a\x01\x08\x04\x77" + most[:119] + "\x02\x01\x00"},
	{api.Notice{Kind: api.ChangeRename, Old: most[:120]}, "\x30\x81\x80\x0a\x01\x08\x04\x78" + most[:120] + "\x02\x01\x00"},
	{api.Notice{Kind: api.ChangeRename, Old: most[:127]}, "\x30\x81\x87\x0a\x01\x08\x04\x7f" + most[:127] + "\x02\x01\x00"},
	{api.Notice{Kind: api.ChangeRename, Old: most[:128]}, "\x30\x81\x89\x0a\x01\x08\x04\x81\x80" + most[:128] + "\x02\x01\x00"},
	{api.Notice{Kind: api.ChangeRename, Old: most[:256]}, "\x30\x82\x01\x0a\x0a\x01\x08\x04\x82\x01\x00" + most[:256] + "\x02\x01\x00"},
	{api.Notice{Kind: api.ChangeRename, Old: most[1:]}, "\x30\x82\x10\x09\x0a\x01\x08\x04\x82\x0f\xff" + most[1:] + "\x02\x01\x00"},
	{api.Notice{Kind: api.ChangeRename, Old: most, N: api.MaxNum}, "\x30\x82\x10\x0d\x0a\x01\x08\x04\x82\x10\x00" + most + "\x02\x04\x7f\xff\xff\xff"},
}

func TestNotice(t *testing.T) {
	for _, c := range codedNotices {
		if s, err := PutNotice(c.n); err != api.OK || s != c.s {
			t.Errorf("PutNotice of %v: %q, %d", c.n, s, err)
		}
		if n, err := ReadNotice(c.s); err != api.OK || n != c.n {
			t.Errorf("ReadNotice of %q: %v, %d", c.s, n, err)
		}
	}
}

// TestNoticeAll goes over each kind, lengths of old names, and numbers around each power of 2.
func TestNoticeAll(t *testing.T) {
	numbers := []int{0, api.MaxNum}
	for i := range 31 {
		numbers = append(numbers, 1<<i-1, 1<<i, 1<<i+1)
	}
	for _, kind := range []int{api.ChangeAdd, api.ChangeDelete, api.ChangeModify, api.ChangeRename} {
		for _, size := range []int{0, 1, 2, 3, 100, 127, 128, 255, 256, 4095, 4096} {
			for _, number := range numbers {
				n := api.Notice{Kind: kind, Old: most[:size], N: number}
				want := codedNotice(n)
				if s, err := PutNotice(n); err != api.OK || s != want {
					t.Fatalf("PutNotice of %d, %d bytes, %d: %q, %d", kind, size, number, s, err)
				}
				if m, err := ReadNotice(want); err != api.OK || m != n {
					t.Fatalf("ReadNotice of %q: %v, %d", want, m, err)
				}
			}
		}
	}
}

func TestPutNoticeWrong(t *testing.T) {
	long := most + "o"
	for _, c := range []struct {
		kind int
		old  string
		n    int
		want api.Errno
	}{
		{0, "", 1, api.ErrArg},
		{-1, "", 1, api.ErrArg},
		{3, "", 1, api.ErrArg},
		{5, "", 1, api.ErrArg},
		{6, "", 1, api.ErrArg},
		{7, "", 1, api.ErrArg},
		{9, "", 1, api.ErrArg},
		{15, "", 1, api.ErrArg},
		{16, "", 1, api.ErrArg},
		{-8, "", 1, api.ErrArg},
		{256 + 8, "", 1, api.ErrArg},
		{math.MaxInt, "", 1, api.ErrArg},
		{math.MinInt, "", 1, api.ErrArg},
		{8, long, 1, api.ErrLong},
		{1, strings.Repeat(most, 1<<8), 1, api.ErrLong},
		{1, strings.Repeat("\u00e4", 2049), 1, api.ErrLong},
		{8, "", -1, api.ErrRange},
		{8, "a", -1, api.ErrRange},
		{8, "a", math.MinInt32, api.ErrRange},
		{8, "a", math.MinInt, api.ErrRange},
		{8, most, -1, api.ErrRange},
		// A kind that is none is told first, then an old name that is too long.
		{3, long, 1, api.ErrArg},
		{3, "a", -1, api.ErrArg},
		{0, long, -1, api.ErrArg},
		{8, long, -1, api.ErrLong},
	} {
		if s, err := PutNotice(api.Notice{Kind: c.kind, Old: c.old, N: c.n}); err != c.want || s != "" {
			t.Errorf("PutNotice of %d, %d bytes, %d: %q, %d", c.kind, len(c.old), c.n, s, err)
		}
	}
}

// TestPutNoticeMost goes over numbers above MaxNum, where an int holds them.
func TestPutNoticeMost(t *testing.T) {
	if strconv.IntSize < 64 {
		t.Skip("an int holds no such number")
	}
	top := api.MaxNum
	for _, number := range []int{top + 1, top + 2, 2*top + 1, 2*top + 2, 2*top + 3, math.MaxInt} {
		for _, old := range []string{"", "a"} {
			if s, err := PutNotice(api.Notice{Kind: 1, Old: old, N: number}); err != api.ErrRange || s != "" {
				t.Errorf("PutNotice of %d: %q, %d", number, s, err)
			}
		}
		if s, err := PutNotice(api.Notice{Kind: 1, Old: most + "o", N: number}); err != api.ErrLong || s != "" {
			t.Errorf("PutNotice of %d, and a long name: %q, %d", number, s, err)
		}
	}
}

// TestPutNoticeKinds holds that four numbers alone are kinds.
func TestPutNoticeKinds(t *testing.T) {
	for kind := -300; kind <= 300; kind++ {
		want := api.ErrArg
		if slices.Contains([]int{1, 2, 4, 8}, kind) {
			want = api.OK
		}
		if _, err := PutNotice(api.Notice{Kind: kind}); err != want {
			t.Errorf("PutNotice of kind %d: %d", kind, err)
		}
	}
}

// isNoNotice tells whether ReadNotice tells of s that it is none.
func isNoNotice(s string) bool {
	n, err := ReadNotice(s)
	return err == api.ErrForm && n == (api.Notice{})
}

func TestReadNoticeWrong(t *testing.T) {
	long := wrapped(10, "\x08") + wrapped(4, most+"o") + wrapped(2, "\x05")
	for _, s := range []string{
		"",
		"x",
		"\x30",
		"\x30\x00",
		"\x30\x01\x1f",
		"\x1f\x00",
		// Kinds that are none, and such that are not as short as can be.
		"\x30\x06\x0a\x01\x00\x02\x01\x05",
		"\x30\x06\x0a\x01\x03\x02\x01\x05",
		"\x30\x06\x0a\x01\x0f\x02\x01\x05",
		"\x30\x06\x0a\x01\x10\x02\x01\x05",
		"\x30\x06\x0a\x01\xf8\x02\x01\x05",
		"\x30\x07\x0a\x02\x00\x08\x02\x01\x05",
		"\x30\x07\x0a\x02\x01\x08\x02\x01\x05",
		"\x30\x05\x0a\x00\x02\x01\x05",
		"\x30\x0a\x0a\x05\x01\x00\x00\x00\x08\x02\x01\x05",
		// Numbers that may not be, and such that are not as short as can be.
		"\x30\x06\x0a\x01\x08\x02\x01\xff",
		"\x30\x06\x0a\x01\x08\x02\x01\x80",
		"\x30\x07\x0a\x01\x08\x02\x02\x00\x05",
		"\x30\x05\x0a\x01\x08\x02\x00",
		"\x30\x09\x0a\x01\x08\x02\x04\xff\xff\xff\xff",
		"\x30\x09\x0a\x01\x08\x02\x04\x80\x00\x00\x00",
		"\x30\x0a\x0a\x01\x08\x02\x05\x00\x80\x00\x00\x00",
		"\x30\x0a\x0a\x01\x08\x02\x05\x01\x00\x00\x00\x05",
		// An old name that is there and empty, or too long, or stands elsewhere, or is there twice.
		"\x30\x08\x0a\x01\x08\x04\x00\x02\x01\x05",
		wrapped(48, long),
		"\x30\x09\x04\x01a\x0a\x01\x08\x02\x01\x05",
		"\x30\x09\x0a\x01\x08\x02\x01\x05\x04\x01a",
		"\x30\x0c\x0a\x01\x08\x04\x01a\x04\x01a\x02\x01\x05",
		"\x30\x0c\x0a\x01\x08\x04\x01a\x02\x01\x05\x04\x01a",
		// Fewer parts, more parts, and parts in another order.
		"\x30\x03\x0a\x01\x08",
		"\x30\x03\x02\x01\x05",
		"\x30\x06\x0a\x01\x08\x04\x01a",
		"\x30\x06\x04\x01a\x02\x01\x05",
		"\x30\x06\x02\x01\x05\x0a\x01\x08",
		"\x30\x09\x0a\x01\x08\x02\x01\x05\x02\x01\x05",
		"\x30\x09\x0a\x01\x08\x0a\x01\x08\x02\x01\x05",
		"\x30\x09\x02\x01\x05\x04\x01a\x0a\x01\x08",
		// Other tags.
		"\x31\x06\x0a\x01\x08\x02\x01\x05",
		"\x10\x06\x0a\x01\x08\x02\x01\x05",
		"\x30\x06\x02\x01\x08\x02\x01\x05",
		"\x30\x06\x0a\x01\x08\x0a\x01\x05",
		"\x30\x09\x0a\x01\x08\x24\x01a\x02\x01\x05",
		"\x30\x09\x0a\x01\x08\x80\x01a\x02\x01\x05",
		// Lengths that are not as short as can be.
		"\x30\x81\x06\x0a\x01\x08\x02\x01\x05",
		"\x30\x07\x0a\x81\x01\x08\x02\x01\x05",
		"\x30\x0a\x0a\x01\x08\x04\x81\x01a\x02\x01\x05",
		"\x30\x80\x0a\x01\x08\x02\x01\x05\x00\x00",
		// A byte behind it, or one ahead, or within another.
		"\x30\x06\x0a\x01\x08\x02\x01\x05x",
		"\x30\x09\x0a\x01\x08\x04\x01a\x02\x01\x05x",
		"\x00\x30\x06\x0a\x01\x08\x02\x01\x05",
		"\x30\x08\x30\x06\x0a\x01\x08\x02\x01\x05",
		"\x04\x08\x30\x06\x0a\x01\x08\x02\x01\x05",
		// What a search that goes on asks for.
		"\x30\x09\x02\x01\x01\x01\x01\x00\x01\x01\x00",
		strings.Repeat("\x30", 1<<20),
		wrapped(48, strings.Repeat("\x04\x00", 1025)),
	} {
		if !isNoNotice(s) {
			t.Errorf("ReadNotice of %q: it is one", s)
		}
	}
}

// plainNotice tells the notice whose bytes s is, by trying all whose old name and number stand somewhere in s.
func plainNotice(s string) (api.Notice, bool) {
	for _, kind := range []int{1, 2, 4, 8} {
		for size := range min(5, len(s)) {
			number := 0
			for _, b := range []byte(s[len(s)-size:]) {
				number = 256*number + int(b)
			}
			if number > api.MaxNum {
				continue
			}
			end := max(0, len(s)-size-2)
			for from := range end + 1 {
				n := api.Notice{Kind: kind, Old: s[from:end], N: number}
				if codedNotice(n) == s {
					return n, true
				}
			}
		}
	}
	return api.Notice{}, false
}

// TestReadNoticeSpoilt holds ReadNotice of bytes like those of a notice, and of short ones, against plainNotice.
func TestReadNoticeSpoilt(t *testing.T) {
	ones, others := 0, 0
	check := func(s string) {
		want, isOne := plainNotice(s)
		if !isOne {
			others++
			if !isNoNotice(s) {
				t.Fatalf("ReadNotice of %q: it is one", s)
			}
			return
		}
		ones++
		if n, err := ReadNotice(s); err != api.OK || n != want {
			t.Fatalf("ReadNotice of %q: %v, %d", s, n, err)
		}
	}
	for _, n := range []api.Notice{
		{Kind: 1},
		{Kind: 8, N: 128},
		{Kind: 4, N: api.MaxNum},
		{Kind: 8, Old: "a", N: 5},
		{Kind: 2, Old: "\x02\x01\x05", N: 300},
	} {
		for _, s := range spoilt(codedNotice(n)) {
			check(s)
		}
	}
	short("", 3, check)
	short("\x30\x06\x0a\x01\x08", 4, check)
	short("\x30\x08\x0a\x01\x08", 4, func(s string) { check(s + "\x01\x05") })
	short("\x30\x09\x0a\x01\x08\x04\x01", 4, check)
	if ones < 500 || others < 10000 {
		t.Errorf("%d notices, %d others", ones, others)
	}
}

// asked tells a control that says that a search goes on.
func asked(critical bool, value string) api.Control {
	return api.Control{OID: oid, Critical: critical, Value: value}
}

func TestFind(t *testing.T) {
	p, q := api.Persist{Types: 1, ReturnECs: true}, api.Persist{Types: 15, ChangesOnly: true}
	ps, qs := "\x30\x09\x02\x01\x01\x01\x01\x00\x01\x01\xff", "\x30\x09\x02\x01\x0f\x01\x01\xff\x01\x01\x00"
	other, needed := api.Control{OID: "1", Value: ps}, api.Control{OID: "1", Critical: true}
	zero := api.Persist{}
	for i, c := range []struct {
		l    []api.Control
		p    api.Persist
		ok   bool
		code int
	}{
		{nil, zero, false, api.Success},
		{[]api.Control{}, zero, false, api.Success},
		{[]api.Control{asked(false, ps)}, p, true, api.Success},
		{[]api.Control{asked(true, ps)}, p, true, api.Success},
		{[]api.Control{asked(true, qs)}, q, true, api.Success},
		// The first one counts.
		{[]api.Control{asked(false, ps), asked(true, qs)}, p, true, api.Success},
		{[]api.Control{asked(true, qs), asked(false, ps)}, q, true, api.Success},
		{[]api.Control{asked(false, ps), asked(true, "")}, p, true, api.Success},
		{[]api.Control{asked(false, ""), asked(true, ps)}, zero, false, api.ProtocolError},
		// Bytes that are wrong, critical or not.
		{[]api.Control{asked(false, "")}, zero, false, api.ProtocolError},
		{[]api.Control{asked(true, "")}, zero, false, api.ProtocolError},
		{[]api.Control{asked(true, "x")}, zero, false, api.ProtocolError},
		{[]api.Control{asked(false, ps+"x")}, zero, false, api.ProtocolError},
		{[]api.Control{asked(false, codedPersist(api.Persist{Types: 16}))}, zero, false, api.ProtocolError},
		{[]api.Control{asked(false, codedPersist(zero))}, zero, false, api.ProtocolError},
		{[]api.Control{asked(false, strings.Repeat("v", 1025))}, zero, false, api.ProtocolError},
		// Others, not critical, and critical, ahead and behind.
		{[]api.Control{other}, zero, false, api.Success},
		{[]api.Control{other, other}, zero, false, api.Success},
		{[]api.Control{needed}, zero, false, api.Unavailable},
		{[]api.Control{needed, other}, zero, false, api.Unavailable},
		{[]api.Control{other, needed}, zero, false, api.Unavailable},
		{[]api.Control{other, needed, other}, zero, false, api.Unavailable},
		{[]api.Control{needed, asked(false, ps)}, p, true, api.Success},
		{[]api.Control{asked(false, ps), needed}, p, true, api.Success},
		{[]api.Control{other, asked(false, ps)}, p, true, api.Success},
		{[]api.Control{other, needed, asked(true, qs), needed}, q, true, api.Success},
		{[]api.Control{needed, asked(false, "")}, zero, false, api.ProtocolError},
		{[]api.Control{asked(false, ""), needed}, zero, false, api.ProtocolError},
		// OIDs like that one, and such that may not be.
		{[]api.Control{{OID: "2.16.840.1.113730.3.4.7", Critical: true, Value: ps}}, zero, false, api.Unavailable},
		{[]api.Control{{OID: oid + "0", Value: ps}}, zero, false, api.Success},
		{[]api.Control{{OID: oid[:len(oid)-1], Value: ps}}, zero, false, api.Success},
		{[]api.Control{{OID: oid + ".", Value: ps}}, zero, false, api.Success},
		{[]api.Control{{OID: " " + oid, Critical: true, Value: ps}}, zero, false, api.Unavailable},
		{[]api.Control{{Value: ps}}, zero, false, api.Success},
		{[]api.Control{{Critical: true, Value: ps}}, zero, false, api.Unavailable},
		{[]api.Control{{OID: "a", Critical: true}}, zero, false, api.Unavailable},
		{[]api.Control{{OID: "a"}, asked(false, ps)}, p, true, api.Success},
		// How many there are is not asked.
		{append(slices.Repeat([]api.Control{other}, 5000), asked(false, ps)), p, true, api.Success},
		{append(slices.Repeat([]api.Control{other}, 5000), needed), zero, false, api.Unavailable},
	} {
		got, ok, code := Find(c.l)
		if got != c.p || ok != c.ok || code != c.code {
			t.Errorf("Find %d: %v, %t, %d", i, got, ok, code)
		}
	}
}

// TestFindAll holds, of each persist, that it is found as ReadPersist tells it.
func TestFindAll(t *testing.T) {
	for _, p := range persists() {
		s := codedPersist(p)
		got, ok, code := Find([]api.Control{{OID: "1", Critical: true}, asked(p.ReturnECs, s)})
		if got != p || !ok || code != api.Success {
			t.Errorf("Find of %v: %v, %t, %d", p, got, ok, code)
		}
	}
}

// plainFind says 18.2 word by word, from the last control on.
func plainFind(l []api.Control) (api.Persist, bool, int) {
	first, critical := -1, 0
	for i := len(l) - 1; i >= 0; i-- {
		if l[i].Critical {
			critical++
		}
		if l[i].OID == oid {
			first = i
		}
	}
	switch {
	case first >= 0:
		for _, p := range persists() {
			if codedPersist(p) == l[first].Value {
				return p, true, 0
			}
		}
		return api.Persist{}, false, 2
	case critical > 0:
		return api.Persist{}, false, 12
	}
	return api.Persist{}, false, 0
}

// TestFindLists goes over all lists of up to four of some controls.
func TestFindLists(t *testing.T) {
	some := []api.Control{
		{OID: "1"},
		{OID: "1", Critical: true, Value: codedPersist(api.Persist{Types: 3})},
		asked(false, codedPersist(api.Persist{Types: 3, ReturnECs: true})),
		asked(true, codedPersist(api.Persist{Types: 12})),
		asked(false, "x"),
		asked(true, codedPersist(api.Persist{Types: 16})),
		{OID: oid + ".1", Critical: true},
	}
	var goOver func(l []api.Control, more int)
	goOver = func(l []api.Control, more int) {
		p, ok, code := Find(l)
		wantP, wantOK, want := plainFind(l)
		if p != wantP || ok != wantOK || code != want {
			t.Fatalf("Find of %v: %v, %t, %d", l, p, ok, code)
		}
		if more == 0 {
			return
		}
		for _, c := range some {
			goOver(append(l, c), more-1)
		}
	}
	goOver(nil, 4)
}

// TestHandedIn holds that a list that is handed in stays as it is, and so do controls behind its end.
func TestHandedIn(t *testing.T) {
	s := codedPersist(api.Persist{Types: 1})
	l := []api.Control{{OID: "1", Critical: true}, {OID: "2"}, asked(true, s)}
	before := slices.Clone(l)
	if _, ok, code := Find(l[:2]); ok || code != api.Unavailable {
		t.Errorf("Find of the first two: %t, %d", ok, code)
	}
	if _, ok, code := Find(l); !ok || code != api.Success {
		t.Errorf("Find of all: %t, %d", ok, code)
	}
	if !slices.Equal(l, before) {
		t.Errorf("handed in: %v", l)
	}
}

// TestReplace holds that parts are replaced in memory of their own, and those that were there stay.
func TestReplace(t *testing.T) {
	for from := range 4 {
		for to := from; to < 4; to++ {
			for count := range 4 {
				list := make([]int, 3, 16)
				copy(list, []int{1, 2, 3})
				room := list[:16]
				others := []int{7, 8, 9}[:count]
				want := slices.Concat(list[:from], others, list[to:])
				if got := replace(list, from, to, others...); !slices.Equal(got, want) {
					t.Errorf("replace from %d to %d by %v: %v", from, to, others, got)
				}
				if !slices.Equal(room[:3], []int{1, 2, 3}) || slices.Max(room[3:]) != 0 || !slices.Equal(others, []int{7, 8, 9}[:count]) {
					t.Errorf("replace from %d to %d by %v: then %v", from, to, others, room)
				}
			}
		}
	}
}
