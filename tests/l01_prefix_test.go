package tests

import (
	"fmt"
	"math"
	"math/rand"
	"strings"
	"testing"

	"loop.example/g00557/impl"
)

// bits is the reference for addresses: the 16 bits as a text, the first one in front.
func bits(addr int) string {
	return fmt.Sprintf("%016b", addr)
}

// allPrefixes makes every valid prefix from its bits, without asking the program.
func allPrefixes() []impl.Prefix {
	var all []impl.Prefix
	for n := range 17 {
		for k := range 1 << n {
			all = append(all, impl.Prefix{Addr: k << (16 - n), Len: n})
		}
	}
	return all
}

// around gives the 17 prefixes that cover an address, by its bits.
func around(addr int) []impl.Prefix {
	var l []impl.Prefix
	for n := range 17 {
		p := impl.Prefix{Len: n}
		fmt.Sscanf(bits(addr)[:n]+strings.Repeat("0", 16-n), "%b", &p.Addr)
		l = append(l, p)
	}
	return l
}

func someAddrs() []int {
	l := []int{0, 1, 127, 128, 255, 256, 257, 300, 383, 384, 511, 512, 0x5555, 0x7FFF, 0x8000, 0x8001, 0xAAAA, 0xFF00, 65534, 65535}
	r := rand.New(rand.NewSource(1))
	for range 20 {
		l = append(l, r.Intn(65536))
	}
	return l
}

func badAddrs() []int {
	return []int{-1, -256, -65536, 65536, 65537, 1 << 16, 1 << 32, 1<<32 + 256, math.MaxInt, math.MinInt}
}

// badPrefixes are wrong in a number out of range or in a bit behind the first Len.
func badPrefixes() []impl.Prefix {
	l := []impl.Prefix{
		{Addr: 0, Len: -1}, {Addr: 0, Len: 17}, {Addr: 65535, Len: 17}, {Addr: 0, Len: 24}, {Addr: 256, Len: 264},
		{Addr: 0, Len: math.MaxInt}, {Addr: 0, Len: math.MinInt}, {Addr: -1, Len: -1},
		{Addr: 1, Len: 0}, {Addr: 32768, Len: 0}, {Addr: 65535, Len: 0}, {Addr: 1, Len: 8}, {Addr: 257, Len: 8},
		{Addr: 384, Len: 8}, {Addr: 64, Len: 9}, {Addr: 448, Len: 9}, {Addr: 385, Len: 9}, {Addr: 1, Len: 15}, {Addr: 65535, Len: 15},
	}
	for _, a := range badAddrs() {
		for _, n := range []int{0, 8, 9, 16} {
			l = append(l, impl.Prefix{Addr: a, Len: n})
		}
	}
	return l
}

func textOf(p impl.Prefix) string {
	return fmt.Sprintf("%d.%d/%d", p.Addr/256, p.Addr%256, p.Len)
}

func codeOf(p impl.Prefix) string {
	s := []byte{byte(p.Len), byte(p.Addr / 256), byte(p.Addr % 256)}
	switch {
	case p.Len == 0:
		return string(s[:1])
	case p.Len <= 8:
		return string(s[:2])
	}
	return string(s)
}

func sign(a, b int) int {
	switch {
	case a < b:
		return -1
	case a > b:
		return 1
	}
	return 0
}

func TestAddrOk(t *testing.T) {
	for a := range 65536 {
		if !impl.AddrOk(a) {
			t.Fatal(a)
		}
	}
	for _, a := range badAddrs() {
		if impl.AddrOk(a) {
			t.Error(a)
		}
	}
}

func TestPrefixOk(t *testing.T) {
	for n := range 17 {
		for a := range 65536 {
			if impl.PrefixOk(impl.Prefix{Addr: a, Len: n}) != (a%(1<<(16-n)) == 0) {
				t.Fatal(a, n)
			}
		}
	}
	for _, p := range badPrefixes() {
		if impl.PrefixOk(p) {
			t.Error(p)
		}
	}
}

func TestCovers(t *testing.T) {
	for _, a := range someAddrs() {
		for _, p := range around(a) {
			for _, b := range someAddrs() {
				if impl.Covers(p, b) != strings.HasPrefix(bits(b), bits(p.Addr)[:p.Len]) {
					t.Fatal(p, b)
				}
			}
			// The addresses at both ends are those that a wrong bound would change.
			last := p.Addr + 1<<(16-p.Len) - 1
			if !impl.Covers(p, p.Addr) || !impl.Covers(p, last) || impl.Covers(p, p.Addr-1) || impl.Covers(p, last+1) {
				t.Fatal("ends", p)
			}
		}
	}
}

func TestCoversInvalid(t *testing.T) {
	for _, p := range badPrefixes() {
		for _, a := range append(someAddrs(), p.Addr) {
			if impl.Covers(p, a) {
				t.Error(p, a)
			}
		}
	}
	for _, a := range badAddrs() {
		for _, p := range append(around(0), around(65535)...) {
			if impl.Covers(p, a) {
				t.Error(p, a)
			}
		}
	}
}

func TestInside(t *testing.T) {
	for _, a := range someAddrs() {
		for _, p := range around(a) {
			for _, b := range someAddrs() {
				for _, q := range around(b) {
					if impl.Inside(p, q) != strings.HasPrefix(bits(p.Addr)[:p.Len], bits(q.Addr)[:q.Len]) {
						t.Fatal(p, q)
					}
				}
			}
		}
	}
}

func TestInsideInvalid(t *testing.T) {
	for _, p := range badPrefixes() {
		if impl.Inside(p, p) {
			t.Error("itself", p)
		}
		for _, q := range append(around(0), around(65535)...) {
			if impl.Inside(p, q) || impl.Inside(q, p) {
				t.Error(p, q)
			}
		}
	}
}

// Promise 2: of two prefixes that cover one address one is inside the other.
func TestPromise2OneInsideTheOther(t *testing.T) {
	for _, a := range someAddrs() {
		covering := 0
		for _, b := range append(someAddrs(), a) {
			for _, p := range around(b) {
				for _, q := range around(a) {
					if !impl.Covers(p, a) || !impl.Covers(q, a) {
						continue
					}
					covering++
					if !impl.Inside(p, q) && !impl.Inside(q, p) || p.Len < q.Len && impl.Inside(p, q) {
						t.Fatal(a, p, q)
					}
				}
			}
		}
		if covering < 17*17 {
			t.Fatal("too few prefixes cover", a, covering)
		}
	}
}

// Promise 2: a prefix inside another one covers nothing that the other does not.
func TestPromise2InsideCoversNoMore(t *testing.T) {
	for _, a := range []int{0, 300, 384, 0x8000, 65535} {
		for i, p := range around(a) {
			for _, q := range []impl.Prefix{around(a)[i/2], around(a ^ 1)[i], around(a ^ 0x8000)[i/2], around(a ^ 256)[(i+17)/2]} {
				if !impl.Inside(p, q) {
					continue
				}
				for addr := 0; addr < 65536; addr += 31 {
					if impl.Covers(p, addr) && !impl.Covers(q, addr) {
						t.Fatal(p, q, addr)
					}
				}
			}
		}
	}
}

func TestPrefixCmp(t *testing.T) {
	var l []impl.Prefix
	for _, a := range someAddrs() {
		l = append(l, around(a)...)
	}
	for _, p := range l {
		for _, q := range l {
			want := sign(p.Addr, q.Addr)
			if want == 0 {
				want = sign(p.Len, q.Len)
			}
			if impl.PrefixCmp(p, q) != want {
				t.Fatal(p, q, want)
			}
		}
	}
	for _, p := range badPrefixes() {
		for _, q := range append(around(300), badPrefixes()...) {
			if impl.PrefixCmp(p, q) != 0 || impl.PrefixCmp(q, p) != 0 {
				t.Error(p, q)
			}
		}
	}
}

func TestPrefixTextExamples(t *testing.T) {
	for s, p := range map[string]impl.Prefix{
		"0.0/0": {}, "1.128/9": {Addr: 384, Len: 9}, "1.0/8": {Addr: 256, Len: 8}, "255.255/16": {Addr: 65535, Len: 16}, "128.0/1": {Addr: 32768, Len: 1},
	} {
		if string(impl.PrefixText(p)) != s {
			t.Error(s, string(impl.PrefixText(p)))
		}
		if q, ok := impl.PrefixRead([]byte(s)); !ok || q != p {
			t.Error(s, q, ok)
		}
	}
	for _, p := range badPrefixes() {
		if len(impl.PrefixText(p)) != 0 {
			t.Error(p)
		}
	}
}

// Promise 1: every prefix is recovered from its text and from its encoding.
func TestPromise1EveryPrefix(t *testing.T) {
	for _, p := range allPrefixes() {
		text := impl.PrefixText(p)
		if string(text) != textOf(p) {
			t.Fatal(p, string(text))
		}
		if q, ok := impl.PrefixRead(text); !ok || q != p {
			t.Fatal(p, q, ok)
		}
		code := impl.PutPrefix(nil, p)
		if string(code) != codeOf(p) {
			t.Fatal(p, code)
		}
		if q, at := impl.GetPrefix(code, 0); q != p || at != len(code) {
			t.Fatal(p, q, at)
		}
	}
}

// Promise 1: a text is refused unless it is exactly the text of a prefix.
func TestPromise1OnlyExactTexts(t *testing.T) {
	texts := map[string]impl.Prefix{}
	for _, p := range allPrefixes() {
		texts[textOf(p)] = p
	}
	check := func(s string) {
		want, known := texts[s]
		if p, ok := impl.PrefixRead([]byte(s)); ok != known || p != want {
			t.Fatalf("%q: %v %v", s, p, ok)
		}
	}
	for _, s := range []string{"0.0/0", "1.128/9", "10.0/8", "255.255/16", "99.64/12", "200.9/16"} {
		for i := range len(s) + 1 {
			check(s[:i])
			check(s[i:])
			for c := range 256 {
				one := string([]byte{byte(c)})
				check(s[:i] + one + s[i:])
				if i < len(s) {
					check(s[:i] + one + s[i+1:])
					check(s[:i] + s[i+1:])
				}
			}
		}
	}
}

func TestPrefixReadInvalid(t *testing.T) {
	for _, s := range []string{
		"", ".", "/", "./", "0", "0.0", "0/0", ".0/0", "0./0", "0.0/", "0.0/0/0", "0.0.0/0", "0/0.0", "0.0.0", "0/0/0",
		"00.0/0", "0.00/0", "0.0/00", "01.0/8", "1.0/08", "1.1/8", "1.129/9", "1.0/17", "0.256/16", "256.0/8", "1.256/9", "2.384/9",
		"-1.0/8", "+1.0/8", "1.-0/8", "1.0/-8", " 1.0/8", "1.0/8 ", "1.0/8\n", "1.0/8\x00", "1.0 /8", "1,0/8", "1.0\\8", "0x1.0/8", "1e0.0/8",
		"\u0661.0/8", "\uff11.0/8", "1\xff0/8", "1.0/\xff8", "\xff\xfe\xfd",
		"18446744073709551616.0/0", "0.18446744073709551616/0", "0.0/18446744073709551616", "72057594037927937.0/8", "9223372036854775807.0/8",
		strings.Repeat("0", 1000) + "1.0/8", strings.Repeat("9", 1000), strings.Repeat(".", 1000), strings.Repeat("1.0/8", 2),
	} {
		if p, ok := impl.PrefixRead([]byte(s)); ok || p != (impl.Prefix{}) {
			t.Errorf("%q: %v %v", s, p, ok)
		}
	}
	if p, ok := impl.PrefixRead(nil); ok || p != (impl.Prefix{}) {
		t.Error("nil", p, ok)
	}
}

// Promise 1: what is decoded is exactly an encoding, whatever stands behind it.
func TestPromise1OnlyExactEncodings(t *testing.T) {
	codes := map[string]impl.Prefix{}
	for _, p := range allPrefixes() {
		codes[codeOf(p)] = p
	}
	check := func(b []byte) {
		want, end := impl.Prefix{}, -1
		for n := range len(b) + 1 {
			if p, ok := codes[string(b[:n])]; ok {
				want, end = p, n
			}
		}
		if p, at := impl.GetPrefix(b, 0); p != want || at != end {
			t.Fatal(b, p, at)
		}
	}
	// Enough bytes follow here for any Len that a byte can tell.
	for n := range 256 {
		check(append([]byte{byte(n)}, make([]byte, 40)...))
	}
	for _, n := range []int{0, 1, 7, 8, 9, 10, 15, 16, 17, 18, 24, 128, 255} {
		check([]byte{byte(n)})
		for high := range 256 {
			check([]byte{byte(n), byte(high)})
			for low := range 256 {
				check([]byte{byte(n), byte(high), byte(low)})
			}
		}
	}
}

func TestGetPrefixIndex(t *testing.T) {
	b := []byte{8, 1, 0, 9, 1, 128, 16, 255}
	for _, x := range []struct {
		at   int
		p    impl.Prefix
		next int
	}{
		{0, impl.Prefix{Addr: 256, Len: 8}, 2}, {1, impl.Prefix{Len: 1}, 3}, {2, impl.Prefix{}, 3}, {3, impl.Prefix{Addr: 384, Len: 9}, 6},
		{4, impl.Prefix{Addr: 128 << 8, Len: 1}, 6}, {5, impl.Prefix{}, -1}, {6, impl.Prefix{}, -1}, {7, impl.Prefix{}, -1},
		{8, impl.Prefix{}, -1}, {9, impl.Prefix{}, -1}, {-1, impl.Prefix{}, -1}, {-8, impl.Prefix{}, -1},
		{math.MaxInt, impl.Prefix{}, -1}, {math.MaxInt - 1, impl.Prefix{}, -1}, {math.MinInt, impl.Prefix{}, -1},
	} {
		if p, next := impl.GetPrefix(b, x.at); p != x.p || next != x.next {
			t.Error(x, p, next)
		}
	}
	for _, at := range []int{-1, 0, 1, math.MaxInt, math.MinInt} {
		if p, next := impl.GetPrefix(nil, at); p != (impl.Prefix{}) || next != -1 {
			t.Error("nil", at, p, next)
		}
	}
}

// What lies behind the length of a slice must not complete an encoding that is cut off.
func TestGetPrefixBehindLength(t *testing.T) {
	for _, code := range []string{"\x08\x01", "\x09\x01\x80", "\x10\xff\xff", "\x00"} {
		b := []byte(code)
		for n := range len(b) {
			if p, at := impl.GetPrefix(b[:n], 0); p != (impl.Prefix{}) || at != -1 {
				t.Error(b[:n], p, at)
			}
		}
	}
}

func TestPutPrefixAppends(t *testing.T) {
	for _, before := range []string{"", "a", "\x08\x01", strings.Repeat("x", 100)} {
		for _, p := range []impl.Prefix{{}, {Addr: 256, Len: 8}, {Addr: 384, Len: 9}, {Addr: 65535, Len: 16}} {
			b := impl.PutPrefix([]byte(before), p)
			if string(b) != before+codeOf(p) {
				t.Error(before, p, b)
			}
			if q, at := impl.GetPrefix(b, len(before)); q != p || at != len(b) {
				t.Error(before, p, q, at)
			}
		}
		for _, p := range badPrefixes() {
			if b := impl.PutPrefix([]byte(before), p); string(b) != before {
				t.Error(before, p, b)
			}
		}
	}
	if b := impl.PutPrefix(nil, impl.Prefix{Addr: 1, Len: 8}); len(b) != 0 {
		t.Error(b)
	}
}

// roomy returns a slice with the content s and the whole array that it is a part of.
func roomy(s string) ([]byte, []byte) {
	whole := []byte("<<<<" + s + ">>>>>>>>")
	return whole[4 : 4+len(s)], whole
}

func TestPrefixArgumentsKept(t *testing.T) {
	for _, s := range []string{"", "1.128/9", "1.1/8", "\x09\x01\x80", "\x09\x01", "\x11\x00\x00"} {
		b, whole := roomy(s)
		was := string(whole)
		impl.PrefixRead(b)
		for at := -1; at <= len(s); at++ {
			impl.GetPrefix(b, at)
		}
		for _, p := range append(around(300), badPrefixes()...) {
			impl.PutPrefix(b, p)
		}
		if string(whole) != was {
			t.Errorf("%q became %q", was, whole)
		}
	}
}

func fill(b []byte, c byte) {
	for i := range b {
		b[i] = c
	}
}

func TestPrefixResultsAreNew(t *testing.T) {
	for _, p := range []impl.Prefix{{}, {Addr: 256, Len: 8}, {Addr: 384, Len: 9}, {Addr: 1, Len: 8}} {
		b, whole := roomy("abc")
		was := string(whole)
		first, second := impl.PutPrefix(b, p), impl.PutPrefix(b, p)
		want := string(second)
		fill(first[:cap(first)], '!')
		if string(whole) != was || string(second) != want {
			t.Error("PutPrefix shares its result", p)
		}
		fill(whole, '?')
		if string(second) != want {
			t.Error("PutPrefix keeps its argument", p)
		}
		none, rest := roomy("")
		was = string(rest)
		out := impl.PutPrefix(none, p)
		fill(out[:cap(out)], '!')
		if string(rest) != was {
			t.Error("PutPrefix writes behind an empty argument", p)
		}
		text := impl.PrefixText(p)
		fill(text[:cap(text)], '!')
		if again := string(impl.PrefixText(p)); impl.PrefixOk(p) && again != textOf(p) {
			t.Error("PrefixText shares its result", p, again)
		}
	}
}
