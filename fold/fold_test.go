package fold

import (
	"math/big"
	"strings"
	"testing"
)

// Bytes that are no UTF-8 when they stand alone: the first one of two, and one that never is any.
const (
	cut   = "\xc3"
	other = "\xff"
)

var lowers = []struct{ s, want string }{
	{"", ""},
	{"a", "a"},
	{"A", "a"},
	{"Z", "z"},
	{"aZ", "az"},
	{"ABCDEFGHIJKLMNOPQRSTUVWXYZ", "abcdefghijklmnopqrstuvwxyz"},
	{"abcdefghijklmnopqrstuvwxyz", "abcdefghijklmnopqrstuvwxyz"},
	{"@AZ[`az{", "@az[`az{"},
	{"objectClass", "objectclass"},
	{"  A  B  ", "  a  b  "},
	{"0123456789-", "0123456789-"},
	{"\tA\nB\x00C\x7f", "\ta\nb\x00c\x7f"},
	// Letters are A to Z alone.
	{"\u00c4\u00d6\u00dc", "\u00c4\u00d6\u00dc"},
	{"A\u00c4B", "a\u00c4b"},
	{"\u0391\u0392\u0393", "\u0391\u0392\u0393"},
	{"\u212a", "\u212a"}, // the sign of kelvin, of which unicode makes a k
	{"\u0130I", "\u0130i"},
	{"\uff21", "\uff21"}, // a wide letter
	// Bytes that are no UTF-8 stay.
	{cut, cut},
	{cut + "A", cut + "a"},
	{"A" + cut, "a" + cut},
	{other + "A" + other + "Z" + other, other + "a" + other + "z" + other},
	{"\xe2\x82A", "\xe2\x82a"},
	{"\xf0\x9f\x92A\x80B", "\xf0\x9f\x92a\x80b"},
	{"\xc1\x81", "\xc1\x81"}, // an overlong A
	{"\xed\xa0\x80A", "\xed\xa0\x80a"},
	{"\uFFFDA", "\uFFFDa"},
}

func TestLower(t *testing.T) {
	for _, c := range lowers {
		if got := Lower(c.s); got != c.want {
			t.Errorf("Lower of %q: %q", c.s, got)
		}
	}
}

// TestLowerBytes goes over all texts of one and two bytes, and some of three: each byte counts alone.
func TestLowerBytes(t *testing.T) {
	low := func(b byte) byte {
		if b >= 65 && b <= 90 {
			return b + 32
		}
		return b
	}
	check := func(s ...byte) {
		want := make([]byte, len(s))
		for i, b := range s {
			want[i] = low(b)
		}
		if got := Lower(string(s)); got != string(want) {
			t.Fatalf("Lower of %q: %q", s, got)
		}
	}
	for a := range 256 {
		check(byte(a))
		for b := range 256 {
			check(byte(a), byte(b))
			check(byte(a), byte(b), 'A')
			check(byte(a), 'Q', byte(b))
		}
	}
}

func TestLowerLong(t *testing.T) {
	for _, s := range []string{"A", "\u00c4A", other + "A"} {
		long := strings.Repeat(s, 1<<16)
		want := strings.Repeat(s[:len(s)-1]+"a", 1<<16)
		if got := Lower(long); got != want {
			t.Errorf("Lower of many %q: %d bytes", s, len(got))
		}
	}
}

var blanks = []struct{ s, want string }{
	{"", ""},
	{" ", ""},
	{"  ", ""},
	{strings.Repeat(" ", 1<<16), ""},
	{"a", "a"},
	{" a", "a"},
	{"a ", "a"},
	{" a ", "a"},
	{"   a   ", "a"},
	{"a b", "a b"},
	{"a  b", "a b"},
	{"a   b", "a b"},
	{" a  b ", "a b"},
	{"  a b  c   d    e  ", "a b c d e"},
	{"ab  cd", "ab cd"},
	{"A  B", "A B"},
	{"a" + strings.Repeat(" ", 1<<16) + "b", "a b"},
	{strings.Repeat(" a ", 1<<12), strings.Repeat("a ", 1<<12-1) + "a"},
	// Blanks are the byte 32 alone.
	{"\t", "\t"},
	{"\ta\t", "\ta\t"},
	{"a\t\tb", "a\t\tb"},
	{" \t ", "\t"},
	{"a \t b", "a \t b"},
	{"\n\n a\r\n", "\n\n a\r\n"},
	{"\x00 \x00", "\x00 \x00"},
	{"\x00\x00", "\x00\x00"},
	{"a\v\fb", "a\v\fb"},
	{"\u00a0\u00a0", "\u00a0\u00a0"},
	{"\u2003a\u3000", "\u2003a\u3000"},
	{"\u0120\u0120", "\u0120\u0120"}, // its lowest eight bits are a blank's
	// Bytes that are no UTF-8, and letters of more than one byte, stay.
	{"  \u00c4  \u00d6  ", "\u00c4 \u00d6"},
	{cut + "  " + cut, cut + " " + cut},
	{"  " + cut + "  ", cut},
	{"  " + other + other + "  a", other + other + " a"},
	{"\xe2\x82  \xac", "\xe2\x82 \xac"},
	{"\xc0\xa0\xc0\xa0", "\xc0\xa0\xc0\xa0"}, // overlong blanks
}

func TestBlanks(t *testing.T) {
	for _, c := range blanks {
		if got := Blanks(c.s); got != c.want {
			t.Errorf("Blanks of %d bytes, %q: %q", len(c.s), c.s[:min(len(c.s), 20)], got[:min(len(got), 20)])
		}
	}
}

// texts tells all texts of up to most of letters.
func texts(letters string, most int) []string {
	all := []string{""}
	from := 0
	for range most {
		to := len(all)
		for _, s := range all[from:to] {
			for i := range len(letters) {
				all = append(all, s+letters[i:i+1])
			}
		}
		from = to
	}
	return all
}

// blanked does to s what the chapter says, in the plainest way.
func blanked(s string) string {
	for strings.Contains(s, "  ") {
		s = strings.ReplaceAll(s, "  ", " ")
	}
	return strings.TrimSuffix(strings.TrimPrefix(s, " "), " ")
}

func TestBlanksOfAll(t *testing.T) {
	for _, s := range texts(" aB\t\xc3\x84", 6) {
		got := Blanks(s)
		if got != blanked(s) {
			t.Fatalf("Blanks of %q: %q", s, got)
		}
		if again := Blanks(got); again != got {
			t.Fatalf("Blanks of Blanks of %q: %q", s, again)
		}
	}
}

func TestFold(t *testing.T) {
	for _, c := range []struct{ s, want string }{
		{"", ""},
		{"   ", ""},
		{"  A  b", "a b"},
		{"A  b", "a b"},
		{"a B", "a b"},
		{" Al  Ko ", "al ko"},
		{"ABC", "abc"},
		{"a b", "a b"},
		{"\tA  B\t", "\ta b\t"},
		{"  \u00c4  Z ", "\u00c4 z"},
		{" \xffA  \xc3Z ", "\xffa \xc3z"},
		{strings.Repeat(" A ", 1<<12), strings.Repeat("a ", 1<<12-1) + "a"},
	} {
		if got := Fold(c.s); got != c.want {
			t.Errorf("Fold of %d bytes, %q: %q", len(c.s), c.s[:min(len(c.s), 20)], got[:min(len(got), 20)])
		}
	}
}

func TestFoldOfAll(t *testing.T) {
	for _, s := range texts(" aB\t\xc3\x84", 6) {
		got := Fold(s)
		if want := strings.ReplaceAll(blanked(s), "B", "b"); got != want {
			t.Fatalf("Fold of %q: %q", s, got)
		}
		if again := Fold(got); again != got {
			t.Fatalf("Fold of Fold of %q: %q", s, again)
		}
	}
}

var (
	nines   = strings.Repeat("9", 32)
	zeros   = strings.Repeat("0", 32)
	pastOne = "1" + zeros
)

var ints = []struct{ s, want string }{
	{"0", "0"},
	{"1", "1"},
	{"9", "9"},
	{"10", "10"},
	{"42", "42"},
	{"1234567890", "1234567890"},
	{"00", "0"},
	{"000", "0"},
	{"-0", "0"},
	{"-00", "0"},
	{"01", "1"},
	{"007", "7"},
	{"-007", "-7"},
	{"-1", "-1"},
	{"-10", "-10"},
	{"0100", "100"},
	{"-0100", "-100"},
	{"9223372036854775808", "9223372036854775808"},
	{"-9223372036854775809", "-9223372036854775809"},
	// 32 digits, and a minus ahead of as many.
	{nines, nines},
	{"-" + nines, "-" + nines},
	{zeros, "0"},
	{"-" + zeros, "0"},
	{zeros[:31] + "5", "5"},
	{"-" + zeros[:31] + "5", "-5"},
	{pastOne[:32], pastOne[:32]},
	{nines[:31], nines[:31]},
}

func TestInt(t *testing.T) {
	for _, c := range ints {
		if got, ok := Int(c.s); !ok || got != c.want {
			t.Errorf("Int of %q: %q, %t", c.s, got, ok)
		}
	}
}

var noInts = []string{
	"",
	"-",
	"--",
	"--1",
	"-+1",
	"+1",
	"+",
	"1-",
	"1-2",
	"-1-",
	" 1",
	"1 ",
	" ",
	"- 1",
	"1 2",
	"1x",
	"x1",
	"x",
	"0x1",
	"1e3",
	"1.0",
	"1_0",
	"1,0",
	"/",
	":",
	"1/",
	"1:",
	"1\n",
	"1\x00",
	"\x001",
	"\xff",
	"1\xff",
	"\xb1",
	"\u0661",       // a digit one of another script
	"1\u0662",      // and a two
	"\u0130\u0131", // their lowest eight bits are digits
	"\uff11",
	"\u2212" + "1", // a longer minus
	"false",
	// More than 32 digits, zeros ahead counted.
	nines + "9",
	"-" + nines + "9",
	"0" + nines,
	"-0" + nines,
	zeros + "0",
	"-" + zeros + "0",
	zeros + "1",
	pastOne,
	"-" + pastOne,
	strings.Repeat("7", 1<<16),
	nines[:31] + "x",
	"-" + nines[:31] + "-",
	nines + "x",
}

func TestIntNone(t *testing.T) {
	for _, s := range noInts {
		if got, ok := Int(s); ok || got != "" {
			t.Errorf("Int of %d bytes, %q: %q, %t", len(s), s[:min(len(s), 40)], got, ok)
		}
	}
}

// number tells the number that s is to math/big, if s is made as a number may be.
func number(s string) (*big.Int, bool) {
	digits := strings.TrimPrefix(s, "-")
	if len(digits) < 1 || len(digits) > 32 || strings.Trim(digits, "0123456789") != "" {
		return nil, false
	}
	return new(big.Int).SetString(s, 10)
}

func TestIntOfAll(t *testing.T) {
	for _, s := range texts("-0179 x", 5) {
		want := ""
		n, isNumber := number(s)
		if isNumber {
			want = n.String()
		}
		got, ok := Int(s)
		if ok != isNumber || got != want {
			t.Fatalf("Int of %q: %q, %t", s, got, ok)
		}
		if !ok {
			continue
		}
		if again, ok := Int(got); !ok || again != got {
			t.Fatalf("Int of Int of %q: %q, %t", s, again, ok)
		}
	}
}

// rising are numbers as Int tells them, each less than the next one.
var rising = []string{
	"-" + nines,
	"-" + pastOne[:32],
	"-" + nines[:31],
	"-9223372036854775809",
	"-9223372036854775808",
	"-2147483649",
	"-100",
	"-99",
	"-21",
	"-20",
	"-19",
	"-12",
	"-11",
	"-10",
	"-9",
	"-2",
	"-1",
	"0",
	"1",
	"2",
	"9",
	"10",
	"11",
	"12",
	"19",
	"20",
	"21",
	"99",
	"100",
	"2147483648",
	"9223372036854775807",
	"9223372036854775808",
	nines[:31],
	pastOne[:32],
	nines[:31] + "8",
	nines,
}

func TestLessNumbers(t *testing.T) {
	for i, a := range rising {
		for k, b := range rising {
			if got := Less(a, b); got != (i < k) {
				t.Errorf("Less of %q, %q: %t", a, b, got)
			}
		}
	}
}

// others are pairs that are not both as Int tells them: they count byte by byte.
var others = []struct {
	a, b string
	want bool
}{
	{"", "", false},
	{"", "a", true},
	{"a", "", false},
	{"a", "b", true},
	{"b", "a", false},
	{"a", "a", false},
	{"a", "aa", true},
	{"aa", "a", false},
	{"aa", "b", true},
	{"Z", "a", true},
	{"a", "Z", false},
	{"a", "\xff", true},
	{"\xff", "a", false},
	{"\xc3", "\xff", true},
	{"\x00", "", false},
	// One is a number, the other one is not.
	{"9", "10x", false},
	{"10x", "9", true},
	{"10", "9x", true},
	{"9x", "10", false},
	{"", "0", true},
	{"0", "", false},
	{"", "-1", true},
	{"-", "-1", true},
	{"-1", "-", false},
	{"-", "0", true},
	{"+1", "0", true},
	{"-1", "+1", false},
	{"+1", "-1", true},
	{"-10", "-9x", true},
	{"9", " 10", false},
	{" 10", "9", true},
	{"1", "a", true},
	{"a", "1", false},
	// Numbers, but not as Int tells them.
	{"010", "9", true},
	{"9", "010", false},
	{"007", "8", true},
	{"8", "007", false},
	{"10", "09", false},
	{"09", "10", true},
	{"00", "0", false},
	{"0", "00", true},
	{"-0", "0", true},
	{"0", "-0", false},
	{"-0", "-1", true},
	{"-1", "-0", false},
	{"-010", "-9", true},
	{"-9", "-010", false},
	{"-01", "-02", true},
	{"-02", "-01", false},
	// More digits than a number has.
	{pastOne, "2", true},
	{"2", pastOne, false},
	{nines + "9", pastOne, false},
	{pastOne, nines, true},
	{nines, pastOne, false},
	{"-" + pastOne, "-2", true},
	{"-2", "-" + pastOne, false},
	{"-" + nines + "9", "-" + pastOne, false},
	{"-" + pastOne, "-" + nines + "9", true},
}

func TestLessOthers(t *testing.T) {
	for _, c := range others {
		if got := Less(c.a, c.b); got != c.want {
			t.Errorf("Less of %q, %q: %t", c.a, c.b, got)
		}
	}
}

func TestLessOfAll(t *testing.T) {
	all := texts("-019x", 4)
	numbers := make([]*big.Int, len(all))
	for i, s := range all {
		if told, ok := Int(s); ok && told == s {
			numbers[i], _ = number(s)
		}
	}
	for i, a := range all {
		for k, b := range all {
			want := a < b
			if numbers[i] != nil && numbers[k] != nil {
				want = numbers[i].Cmp(numbers[k]) < 0
			}
			if got := Less(a, b); got != want {
				t.Fatalf("Less of %q, %q: %t", a, b, got)
			}
		}
	}
}
