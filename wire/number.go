package wire

import "patternbook/api"

// Bytes hold seven bits of a number each; their highest one says that another byte follows.
const (
	sevenBits = 7
	follows   = 1 << sevenBits
	maxSevens = 6 // more than these no good part needs
	kindBits  = 2 // of a head, below the id
)

// headOf is the number that a part begins with.
func headOf(p api.Part) uint64 { return uint64(p.Id)<<kindBits | uint64(p.Kind) }

// partOf is a part of that head, still without what it holds.
func partOf(head uint64) api.Part {
	return api.Part{Id: int(head >> kindBits), Kind: int(head & (1<<kindBits - 1))}
}

// fold makes small numbers without a sign of those around 0, so that they take few bytes below 0 too.
func fold(n int) uint64 {
	if n < 0 {
		return uint64(-n)<<1 - 1
	}
	return uint64(n) << 1
}

func unfold(u uint64) int {
	if u&1 == 1 {
		return -int(u>>1) - 1
	}
	return int(u >> 1)
}

func appendNumber(out []byte, u uint64) []byte {
	for u >= follows {
		out = append(out, byte(u)|follows)
		u >>= sevenBits
	}
	return append(out, byte(u))
}

// cutNumber is the number that s begins with, and what stands behind it; false: there is none, or it takes more bytes than it may.
func cutNumber(s string) (uint64, string, bool) {
	var u uint64
	for i := range min(len(s), maxSevens) {
		u |= uint64(s[i]&(follows-1)) << (sevenBits * i)
		if s[i] < follows {
			// A last byte of 0 behind others adds nothing: the number could do with fewer.
			return u, s[i+1:], i == 0 || s[i] != 0
		}
	}
	return 0, "", false
}
