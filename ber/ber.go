// Package ber is layer 1, tags, lengths and bytes: see shared/doc/01-ber.md.
package ber

import (
	"bothy/api"
)

const (
	maxTag = 254
	// lowTag: a tag whose last five bits are all ones would go on in further bytes.
	lowTag = 31
	// long: from it on a length does not fit one byte, and a first byte tells how many follow.
	long = 128
	// maxMore is how many bytes may follow a length's first one.
	maxMore = 4
)

// Put tells a tag, the length of body, and body.
func Put(tag int, body string) (string, api.Errno) {
	if !isTag(tag) {
		return "", api.ErrTag
	}
	if len(body) > api.MaxBody {
		return "", api.ErrLong
	}
	out := make([]byte, 0, 2+maxMore+len(body))
	out = append(out, byte(tag))
	out = appendLength(out, uint32(len(body)))
	out = append(out, body...)
	return string(out), api.OK
}

// Read tells the first tag of s with its body, and how many bytes both have in all.
func Read(s string) (api.TLV, int, api.Errno) {
	tag, n, head, err := Head(s)
	if err != api.OK {
		return api.TLV{}, 0, err
	}
	if len(s)-head < n {
		return api.TLV{}, 0, api.ErrCut
	}
	return api.TLV{Tag: tag, Body: s[head : head+n]}, head + n, api.OK
}

// Head tells the first tag of s, the length behind it, and how many bytes these two have.
func Head(s string) (int, int, int, api.Errno) {
	if len(s) == 0 {
		return 0, 0, 0, api.ErrCut
	}
	tag := int(s[0])
	if !isTag(tag) {
		return 0, 0, 0, api.ErrTag
	}
	if len(s) == 1 {
		return 0, 0, 0, api.ErrCut
	}
	n, size, err := readLength(s[1:])
	if err != api.OK {
		return 0, 0, 0, err
	}
	return tag, n, 1 + size, api.OK
}

// All tells all that stands in s, one behind the other.
func All(s string) ([]api.TLV, api.Errno) {
	var list []api.TLV
	for len(s) > 0 {
		one, size, err := Read(s)
		if err != api.OK {
			return nil, err
		}
		if len(list) == api.MaxList {
			return nil, api.ErrLong
		}
		list = append(list, one)
		s = s[size:]
	}
	return list, api.OK
}

// isTag tells whether a tag is one of one byte.
func isTag(tag int) bool {
	return tag >= 0 && tag <= maxTag && tag&lowTag != lowTag
}

// moreBytes tells how many bytes stand behind the first one in the shortest length of n.
func moreBytes(n uint32) int {
	more := 0
	if n < long {
		return more
	}
next:
	more++
	n >>= 8
	if n > 0 {
		goto next
	}
	return more
}

// appendLength puts the shortest length of n behind out.
func appendLength(out []byte, n uint32) []byte {
	more := moreBytes(n)
	if more == 0 {
		return append(out, byte(n))
	}
	out = append(out, byte(long+more))
next:
	more--
	out = append(out, byte(n>>(8*more)))
	if more > 0 {
		goto next
	}
	return out
}

// readLength tells the length with which s, which has a byte at least, begins, and how many bytes it has.
func readLength(s string) (int, int, api.Errno) {
	first := int(s[0])
	if first < long {
		return first, 1, api.OK
	}
	more := first - long
	if more == 0 || more > maxMore {
		return 0, 0, api.ErrForm
	}
	if len(s)-1 < more {
		return 0, 0, api.ErrCut
	}
	// Four bytes may be more than an int holds where it has 32 bits.
	n := bigEndian(s[1 : 1+more])
	if moreBytes(n) != more {
		return 0, 0, api.ErrForm
	}
	if n > api.MaxBody {
		return 0, 0, api.ErrLong
	}
	return int(n), 1 + more, api.OK
}

// bigEndian tells the number of one to four bytes, the highest first.
func bigEndian(s string) uint32 {
	n := uint32(0)
	at := 0
next:
	n = n<<8 | uint32(s[at])
	at++
	if at < len(s) {
		goto next
	}
	return n
}
