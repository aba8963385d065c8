package impl

import (
	"bytes"
	"cmp"
	"strconv"
)

const addrBits = 16
const maxAddr = 65535

type Prefix struct {
	Addr int
	Len  int
}

func PrefixOk(p Prefix) bool {
	return AddrOk(p.Addr) && p.Len >= 0 && p.Len <= addrBits && head(p.Addr, p.Len) == p.Addr
}

func AddrOk(a int) bool {
	return a >= 0 && a <= maxAddr
}

// head keeps the first n bits of an address. A negative n would panic, so callers check it before.
func head(addr int, n int) int {
	return addr &^ (maxAddr >> n)
}

func Covers(p Prefix, addr int) bool {
	return PrefixOk(p) && AddrOk(addr) && head(addr, p.Len) == p.Addr
}

// chain has as its keys the prefixes in which a valid prefix lies, one of each length up to its own.
// As all keys are valid, a prefix that is looked up need not be checked.
func chain(p Prefix) map[Prefix]bool {
	set := make(map[Prefix]bool, p.Len+1)
	for n := range p.Len + 1 {
		set[Prefix{Addr: head(p.Addr, n), Len: n}] = true
	}
	return set
}

func Inside(p Prefix, q Prefix) bool {
	return PrefixOk(p) && chain(p)[q]
}

func PrefixCmp(p Prefix, q Prefix) int {
	if !PrefixOk(p) || !PrefixOk(q) {
		return 0
	}
	return cmp.Or(cmp.Compare(p.Addr, q.Addr), cmp.Compare(p.Len, q.Len))
}

func PrefixText(p Prefix) []byte {
	if !PrefixOk(p) {
		return nil
	}
	high, low := p.Addr>>8, p.Addr&255
	return []byte(strconv.Itoa(high) + "." + strconv.Itoa(low) + "/" + strconv.Itoa(p.Len))
}

// PrefixRead reads loosely and then compares with the one text of what it has read.
// So it need not know the separators, nor refuse leading zeros or numbers that are too large.
func PrefixRead(b []byte) (Prefix, bool) {
	var fields [3]int
	at := 0
	for _, r := range string(b) {
		if r >= '0' && r <= '9' {
			fields[at] = fields[at]*10 + int(r-'0')
			continue
		}
		at++
		if at == len(fields) {
			return Prefix{}, false
		}
	}
	p := Prefix{Addr: fields[0]<<8 | fields[1], Len: fields[2]}
	if !PrefixOk(p) || !bytes.Equal(PrefixText(p), b) {
		return Prefix{}, false
	}
	return p, true
}

// addrBytes is the number of bytes behind the byte Len in an encoding.
func addrBytes(length int) int {
	return (length + 7) / 8
}

func PutPrefix(b []byte, p Prefix) []byte {
	out := bytes.Clone(b)
	if !PrefixOk(p) {
		return out
	}
	out = append(out, byte(p.Len))
	for i := range addrBytes(p.Len) {
		out = append(out, byte(p.Addr>>(8-8*i)))
	}
	return out
}

func GetPrefix(b []byte, at int) (Prefix, int) {
	if at < 0 || at >= len(b) {
		return Prefix{}, -1
	}
	p := Prefix{Len: int(b[at])}
	end := at + 1 + addrBytes(p.Len)
	if p.Len > addrBits || end > len(b) {
		return Prefix{}, -1
	}
	for i := range addrBytes(p.Len) {
		p.Addr |= int(b[at+1+i]) << (8 - 8*i)
	}
	if !PrefixOk(p) {
		return Prefix{}, -1
	}
	return p, end
}
