package sums

import (
	"strings"

	"pewholder/api"
	"pewholder/mod"
)

// polynomial that is divided by: turned around, as its bits come lowest first, and without its highest one.
const polynomial = 0xEDB88320

// entryText is what the sum of an entry is made of.
func entryText(e api.Entry) string {
	var b strings.Builder
	b.WriteString(mod.Text(e.Mod) + "\n")
	for _, m := range e.Reqs {
		b.WriteString(mod.Text(m) + "\n")
	}
	for _, pack := range e.Packs {
		b.WriteString("/" + pack + "\n")
	}
	if e.Back {
		b.WriteString("-")
	}
	return b.String()
}

// crc is what is left of a text's bits, divided: CRC-32.
func crc(s string) uint32 {
	left := ^uint32(0)
	eachBit(s, func(bit uint32) {
		out := left&1 ^ bit
		left >>= 1
		if out == 1 {
			left ^= polynomial
		}
	})
	return ^left
}

// eachBit hands over the bits of a text, of each byte the lowest one first.
func eachBit(s string, take func(bit uint32)) {
	for i := range len(s) {
		for k := range 8 {
			take(uint32(s[i]>>k) & 1)
		}
	}
}
