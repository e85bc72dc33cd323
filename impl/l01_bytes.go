package impl

import (
	"strconv"
	"strings"
)

const MaxName = 30

const (
	maxShort = 255
	maxLong  = 100000
	maxDec   = 999999999
)

// sumMask is what a sum begins with, and what it is turned over with at its end.
const sumMask uint32 = 4294967295

// sumTable holds what four halvings of each half byte bring in. It goes by
// half bytes since one for whole bytes would be longer than a table may be.
var sumTable = [16]uint32{
	0x00000000, 0x105ec76f, 0x20bd8ede, 0x30e349b1,
	0x417b1dbc, 0x5125dad3, 0x61c69362, 0x7198540d,
	0x82f63b78, 0x92a8fc17, 0xa24bb5a6, 0xb21572c9,
	0xc38d26c4, 0xd3d3e1ab, 0xe330a81a, 0xf36e6f75,
}

func sizeOk(size int) bool {
	return size == 1 || size == 2 || size == 4 || size == 8
}

// PutInt answers n as size bytes, the highest first.
func PutInt(n int, size int) string {
	if !sizeOk(size) || n < 0 || n>>(8*size) != 0 {
		return ""
	}
	out := make([]byte, size)
	for i := range out {
		out[i] = byte(n >> (8 * (size - 1 - i)))
	}
	return string(out)
}

// GetInt answers the number of size bytes at place i of s, and the place behind it.
func GetInt(s string, i int, size int) (int, int) {
	// The place is held against len(s)-size, as i+size may wrap round.
	if !sizeOk(size) || i < 0 || i > len(s)-size {
		return 0, -1
	}
	n := 0
	for k := i; k < i+size; k++ {
		n = n<<8 | int(s[k])
	}
	// Eight bytes that tell more than an int holds have set its sign.
	if n < 0 {
		return 0, -1
	}
	return n, i + size
}

func putText(s string, size int, most int) string {
	if len(s) > most {
		return ""
	}
	return PutInt(len(s), size) + s
}

func getText(s string, i int, size int, most int) (string, int) {
	n, at := GetInt(s, i, size)
	if at < 0 || n > most || n > len(s)-at {
		return "", -1
	}
	// A piece of s would share its memory; an answer is to have its own.
	return strings.Clone(s[at : at+n]), at + n
}

// PutShort answers s with its length as one byte ahead.
func PutShort(s string) string { return putText(s, 1, maxShort) }

// GetShort answers the text of a PutShort at place i of s, and the place behind it.
func GetShort(s string, i int) (string, int) { return getText(s, i, 1, maxShort) }

// PutLong answers s with its length as four bytes ahead.
func PutLong(s string) string { return putText(s, 4, maxLong) }

// GetLong answers the text of a PutLong at place i of s, and the place behind it.
func GetLong(s string, i int) (string, int) { return getText(s, i, 4, maxLong) }

// CheckSum answers the CRC-32C of s.
func CheckSum(s string) uint32 {
	sum := sumMask
	for i := range len(s) {
		sum ^= uint32(s[i])
		sum = sum>>4 ^ sumTable[sum&15]
		sum = sum>>4 ^ sumTable[sum&15]
	}
	return sum ^ sumMask
}

func nameByte(b byte) bool {
	return 'a' <= b && b <= 'z' || '0' <= b && b <= '9' || b == '-' || b == '.' || b == '_'
}

// NameOk tells whether s is a name.
func NameOk(s string) bool {
	if len(s) < 1 || len(s) > MaxName {
		return false
	}
	for i := range len(s) {
		if !nameByte(s[i]) {
			return false
		}
	}
	return true
}

// DecText answers n in decimal digits.
func DecText(n int) string { return strconv.Itoa(n) }

// ReadDec answers the number whose DecText s is, -1 when there is none.
func ReadDec(s string) int {
	n, err := strconv.Atoi(s)
	// Atoi also reads a sign and needless noughts, which DecText never writes.
	if err != nil || n < 0 || n > maxDec || DecText(n) != s {
		return -1
	}
	return n
}

// Words answers the parts of s between blanks, the empty ones too.
func Words(s string) []string {
	out := strings.Split(s, " ")
	for i, word := range out {
		out[i] = strings.Clone(word)
	}
	return out
}
