package num

import (
	"math"
	"strings"
	"testing"

	"bothy/api"
)

// numbers are written out by hand, so that they do not hang on the code they are held against.
var numbers = []struct {
	n    int
	text string
}{
	{0, "\x00"},
	{1, "\x01"},
	{2, "\x02"},
	{5, "\x05"},
	{126, "\x7e"},
	{127, "\x7f"},
	{128, "\x00\x80"},
	{129, "\x00\x81"},
	{254, "\x00\xfe"},
	{255, "\x00\xff"},
	{256, "\x01\x00"},
	{257, "\x01\x01"},
	{4660, "\x12\x34"},
	{32767, "\x7f\xff"},
	{32768, "\x00\x80\x00"},
	{65535, "\x00\xff\xff"},
	{65536, "\x01\x00\x00"},
	{8388607, "\x7f\xff\xff"},
	{8388608, "\x00\x80\x00\x00"},
	{16777215, "\x00\xff\xff\xff"},
	{16777216, "\x01\x00\x00\x00"},
	{305419896, "\x12\x34\x56\x78"},
	{2147483646, "\x7f\xff\xff\xfe"},
	{2147483647, "\x7f\xff\xff\xff"},
	{-1, "\xff"},
	{-2, "\xfe"},
	{-127, "\x81"},
	{-128, "\x80"},
	{-129, "\xff\x7f"},
	{-130, "\xff\x7e"},
	{-255, "\xff\x01"},
	{-256, "\xff\x00"},
	{-257, "\xfe\xff"},
	{-32767, "\x80\x01"},
	{-32768, "\x80\x00"},
	{-32769, "\xff\x7f\xff"},
	{-65536, "\xff\x00\x00"},
	{-65537, "\xfe\xff\xff"},
	{-8388608, "\x80\x00\x00"},
	{-8388609, "\xff\x7f\xff\xff"},
	{-16777216, "\xff\x00\x00\x00"},
	{-16777217, "\xfe\xff\xff\xff"},
	{-305419896, "\xed\xcb\xa9\x88"},
	{-2147483647, "\x80\x00\x00\x01"},
	{-2147483648, "\x80\x00\x00\x00"},
}

func TestPut(t *testing.T) {
	for _, c := range numbers {
		if got, err := Put(c.n); err != api.OK || got != c.text {
			t.Errorf("Put(%d): %q, %d", c.n, got, err)
		}
	}
}

func TestPutRange(t *testing.T) {
	for _, n := range []int{
		1 << 31, 1<<31 + 1, 1<<32 - 1, 1 << 32, 1<<32 + 5, 1 << 40, math.MaxInt,
		-1<<31 - 1, -1<<31 - 2, -1 << 32, -1<<32 + 5, -1 << 40, math.MinInt, math.MinInt + 5,
	} {
		if got, err := Put(n); err != api.ErrRange || got != "" {
			t.Errorf("Put(%d): %q, %d", n, got, err)
		}
	}
}

func TestRead(t *testing.T) {
	for _, c := range numbers {
		if got, err := Read(c.text); err != api.OK || got != c.n {
			t.Errorf("Read of %q: %d, %d", c.text, got, err)
		}
	}
}

// broken are texts that Read does not take, and the error that it answers.
var broken = []struct {
	s   string
	err api.Errno
}{
	{"", api.ErrCut},
	// Not as short as can be.
	{"\x00\x00", api.ErrForm},
	{"\x00\x01", api.ErrForm},
	{"\x00\x7f", api.ErrForm},
	{"\xff\xff", api.ErrForm},
	{"\xff\x80", api.ErrForm},
	{"\xff\xfe", api.ErrForm},
	{"\x00\x00\x80", api.ErrForm},
	{"\x00\x7f\xff", api.ErrForm},
	{"\xff\xff\x7f", api.ErrForm},
	{"\xff\x80\x00", api.ErrForm},
	{"\x00\x00\x00\x00", api.ErrForm},
	{"\x00\x12\x34\x56", api.ErrForm},
	{"\xff\xff\xff\xff", api.ErrForm},
	{"\xff\x80\x00\x00", api.ErrForm},
	// Not as short as can be, and too long as well.
	{"\x00\x00\x00\x00\x00", api.ErrForm},
	{"\x00\x00\x00\x00\x05", api.ErrForm},
	{"\x00\x7f\xff\xff\xff", api.ErrForm},
	{"\x00\x00\x80\x00\x00\x00", api.ErrForm},
	{"\xff\xff\xff\xff\xff", api.ErrForm},
	{"\xff\x80\x00\x00\x00", api.ErrForm},
	{"\x00" + strings.Repeat("\x01", 300), api.ErrForm},
	{"\xff" + strings.Repeat("\x80", 300), api.ErrForm},
	// Too long alone.
	{"\x00\x80\x00\x00\x00", api.ErrLong},
	{"\x00\xff\xff\xff\xff", api.ErrLong},
	{"\x01\x00\x00\x00\x00", api.ErrLong},
	{"\x7f\xff\xff\xff\xff", api.ErrLong},
	{"\x80\x00\x00\x00\x00", api.ErrLong},
	{"\xff\x7f\xff\xff\xff", api.ErrLong},
	{"\xff\x00\x00\x00\x00", api.ErrLong},
	{"\x01\x00\x00\x00\x00\x00\x00\x00", api.ErrLong},
	{"\x01\x00\x00\x00\x00\x00\x00\x00\x05", api.ErrLong},
	{"\x00\x80" + strings.Repeat("\x00", 300), api.ErrLong},
	{strings.Repeat("\x01", 1<<17), api.ErrLong},
}

func TestReadBroken(t *testing.T) {
	for _, b := range broken {
		if got, err := Read(b.s); got != 0 || err != b.err {
			t.Errorf("Read of %d bytes, %q: %d, %d", len(b.s), b.s[:min(len(b.s), 9)], got, err)
		}
	}
}

// TestReadShort goes over all texts of one to three bytes, and some of four: each one is the number that its bytes make, or a shorter text is that number.
func TestReadShort(t *testing.T) {
	check := func(s string, n int) {
		err := api.OK
		if fits := 8*len(s) - 9; len(s) > 1 && n >= -1<<fits && n < 1<<fits {
			n, err = 0, api.ErrForm
		}
		got, gotErr := Read(s)
		if got != n || gotErr != err {
			t.Fatalf("Read of %q: %d, %d", s, got, gotErr)
		}
		if err != api.OK {
			return
		}
		if put, err := Put(n); err != api.OK || put != s {
			t.Fatalf("Put(%d): %q, %d", n, put, err)
		}
	}
	for a := range 256 {
		high := int(int8(a))
		check(string([]byte{byte(a)}), high)
		for b := range 256 {
			check(string([]byte{byte(a), byte(b)}), high*256+b)
			for c := range 256 {
				check(string([]byte{byte(a), byte(b), byte(c)}), (high*256+b)*256+c)
				check(string([]byte{byte(a), byte(b), byte(c), byte(a ^ c)}), ((high*256+b)*256+c)*256+(a^c))
			}
		}
	}
}

// TestPutIsRead goes over numbers from one end to the other, and over those beside each power of 2.
func TestPutIsRead(t *testing.T) {
	check := func(n int) {
		put, err := Put(n)
		if err != api.OK {
			t.Fatalf("Put(%d): error %d", n, err)
		}
		if got, err := Read(put); err != api.OK || got != n {
			t.Fatalf("Read of Put(%d): %d, %d", n, got, err)
		}
	}
	for n := -1 << 31; n <= api.MaxNum; n += 65521 {
		check(n)
	}
	for bit := range 31 {
		for off := -3; off <= 3; off++ {
			check(1<<bit + off)
			check(-1<<bit + off)
		}
	}
}

func TestBool(t *testing.T) {
	if got := Bool(true); got != "\xff" {
		t.Errorf("Bool(true): %q", got)
	}
	if got := Bool(false); got != "\x00" {
		t.Errorf("Bool(false): %q", got)
	}
}

func TestReadBool(t *testing.T) {
	for b := range 256 {
		err := api.ErrForm
		if b == 0 || b == 255 {
			err = api.OK
		}
		got, gotErr := ReadBool(string([]byte{byte(b)}))
		if got != (b == 255) || gotErr != err {
			t.Errorf("ReadBool of byte %d: %t, %d", b, got, gotErr)
		}
	}
	for _, want := range []bool{true, false} {
		if got, err := ReadBool(Bool(want)); err != api.OK || got != want {
			t.Errorf("ReadBool of Bool(%t): %t, %d", want, got, err)
		}
	}
}

func TestReadBoolBroken(t *testing.T) {
	if got, err := ReadBool(""); got || err != api.ErrCut {
		t.Errorf("ReadBool of no bytes: %t, %d", got, err)
	}
	for _, s := range []string{"\xff\xff", "\x00\x00", "\xff\x00", "\x00\xff", "\x01\x01", "\xff\xff\xff", "true", strings.Repeat("\xff", 1<<17)} {
		if got, err := ReadBool(s); got || err != api.ErrForm {
			t.Errorf("ReadBool of %d bytes, %q: %t, %d", len(s), s[:min(len(s), 9)], got, err)
		}
	}
}
