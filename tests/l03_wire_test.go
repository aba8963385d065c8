package tests

import (
	"fmt"
	"math"
	"math/rand"
	"slices"
	"strings"
	"testing"

	"loop.example/g00557/impl"
)

// manyPrefixes gives n prefixes, ascending, of all lengths that codes differ in.
func manyPrefixes(n int) []impl.Prefix {
	var l []impl.Prefix
	for i := range n {
		l = append(l, impl.Prefix{Addr: i / 3 << 8, Len: []int{8, 9, 16}[i%3]})
	}
	return l
}

func goodLists() [][]impl.Prefix {
	l := [][]impl.Prefix{
		nil, {}, {{}}, {{Addr: 32768, Len: 1}}, {{Addr: 256, Len: 8}}, {{Addr: 384, Len: 9}}, {{Addr: 65535, Len: 16}},
		{{}, {Len: 1}}, {{Len: 16}, {Addr: 1, Len: 16}}, {{Addr: 256, Len: 16}, {Addr: 512, Len: 8}}, around(0)[:8], around(0)[9:],
	}
	var longest []impl.Prefix
	for i := range 8 {
		longest = append(longest, impl.Prefix{Addr: 65528 + i, Len: 16})
	}
	return append(l, longest, manyPrefixes(7), manyPrefixes(8))
}

// badLists are valid but for one thing.
func badLists() [][]impl.Prefix {
	l := [][]impl.Prefix{
		manyPrefixes(9), around(0), slices.Repeat([]impl.Prefix{{}}, 2), make([]impl.Prefix, 100), {{Len: 1}, {}}, {{Addr: 512, Len: 8}, {Addr: 256, Len: 16}},
		{{Addr: 256, Len: 8}, {Addr: 256, Len: 8}}, {{Addr: 1, Len: 16}, {Addr: 3, Len: 16}, {Addr: 2, Len: 16}},
	}
	for i := range 7 {
		twice, exchanged := manyPrefixes(8), manyPrefixes(8)
		twice[i] = twice[i+1]
		exchanged[i], exchanged[i+1] = exchanged[i+1], exchanged[i]
		l = append(l, twice, exchanged)
	}
	for _, p := range badPrefixes() {
		for _, at := range []int{0, 3, 7} {
			some := manyPrefixes(8)
			some[at] = p
			l = append(l, some)
		}
		l = append(l, []impl.Prefix{p})
	}
	return l
}

func sentAttrs() []impl.Attr {
	return []impl.Attr{
		{Path: []int{1}}, {Path: []int{65535}, Pref: 1000, Comm: []int{65535}, Bw: 1000}, {Path: []int{255, 256, 257}, Pref: 255, Comm: []int{255, 256}, Bw: 256},
		{Path: []int{7}, Pref: 256, Bw: 255}, {Path: []int{7, 7}, Comm: []int{1}, Bw: 1}, {Path: []int{1, 2, 3, 4, 5, 6, 7}, Pref: 1, Comm: []int{1, 2, 3}},
		{Path: []int{65535, 65534, 65533, 65532, 65531, 65530, 65529, 65528}, Pref: 1000, Comm: []int{65532, 65533, 65534, 65535}, Bw: 1000},
		{Path: slices.Repeat([]int{65535}, 8), Pref: 999, Comm: []int{}, Bw: 999},
	}
}

func goodMsgs() []impl.Msg {
	l := []impl.Msg{{Kind: impl.MsKeep}, {Kind: impl.MsKeep, Gone: []impl.Prefix{}, Came: []impl.Prefix{}, Attr: impl.Attr{Path: []int{}, Comm: []int{}}}}
	for _, as := range []int{1, 2, 255, 256, 258, 1000, 65534, 65535} {
		for _, hold := range []int{3, 4, 128, 254, 255} {
			for _, id := range []int{1, 2, 128, 254, 255} {
				l = append(l, impl.Msg{Kind: impl.MsOpen, As: as, Hold: hold, Id: id})
			}
		}
	}
	for e := 1; e <= 6; e++ {
		l = append(l, impl.Msg{Kind: impl.MsNotify, Error: e})
	}
	for _, gone := range goodLists() {
		for _, came := range goodLists() {
			if len(came) == 0 {
				l = append(l, impl.Msg{Kind: impl.MsUpdate, Gone: gone, Came: came})
				continue
			}
			for _, a := range sentAttrs() {
				l = append(l, impl.Msg{Kind: impl.MsUpdate, Gone: gone, Came: came, Attr: a})
			}
		}
	}
	return l
}

// fewMsgs has messages of each kind, for tests that try many things with each.
func fewMsgs() []impl.Msg {
	all := goodMsgs()
	l := []impl.Msg{all[0], all[2], all[100], all[202], all[205], all[207], all[208], all[len(all)-1]}
	r := rand.New(rand.NewSource(3))
	for range 30 {
		l = append(l, all[r.Intn(len(all))])
	}
	return l
}

// plainMsgs has one message for each set of fields that may be other than zero.
func plainMsgs() []impl.Msg {
	return []impl.Msg{
		{Kind: impl.MsOpen, As: 5, Hold: 9, Id: 7}, {Kind: impl.MsKeep}, {Kind: impl.MsNotify, Error: 6}, {Kind: impl.MsUpdate},
		{Kind: impl.MsUpdate, Gone: manyPrefixes(2)}, {Kind: impl.MsUpdate, Came: manyPrefixes(2), Attr: impl.Attr{Path: []int{5}}},
	}
}

// strangers are valid messages with one field that should be zero and is not.
func strangers() []impl.Msg {
	var l []impl.Msg
	for _, m := range plainMsgs() {
		for _, n := range []int{1, 3, 100, -1, 1 << 32, math.MinInt} {
			for field := range 10 {
				x := m
				open, update, told := m.Kind == impl.MsOpen, m.Kind == impl.MsUpdate, len(m.Came) > 0
				own := []bool{open, open, open, m.Kind == impl.MsNotify, update, update, told, told, told, told}[field]
				switch field {
				case 0:
					x.As = n
				case 1:
					x.Hold = n
				case 2:
					x.Id = n
				case 3:
					x.Error = n
				case 4:
					x.Gone = []impl.Prefix{{Addr: n, Len: 16}}
				case 5:
					x.Came = []impl.Prefix{{}}
				case 6:
					x.Attr.Path = []int{n}
				case 7:
					x.Attr.Pref = n
				case 8:
					x.Attr.Comm = []int{n}
				case 9:
					x.Attr.Bw = n
				}
				if !own {
					l = append(l, x)
				}
			}
		}
	}
	return l
}

// badMsgs are valid but for one thing.
func badMsgs() []impl.Msg {
	l := append(strangers(), impl.Msg{}, impl.Msg{Kind: impl.MsOpen}, impl.Msg{Kind: impl.MsNotify})
	for _, n := range []int{0, -1, 5, 255, 256, 257, 258, 259, 260, 1<<32 + 1, 1<<32 + 4, math.MaxInt, math.MinInt} {
		for _, m := range plainMsgs() {
			m.Kind = n
			l = append(l, m)
		}
	}
	for _, n := range badNumbers() {
		l = append(l, impl.Msg{Kind: impl.MsOpen, As: n, Hold: 9, Id: 7})
	}
	for _, n := range []int{0, -1, 256, 257, 259, 1<<32 + 3, math.MaxInt, math.MinInt} {
		l = append(l, impl.Msg{Kind: impl.MsOpen, As: 5, Hold: n, Id: 7}, impl.Msg{Kind: impl.MsOpen, As: 5, Hold: 9, Id: n}, impl.Msg{Kind: impl.MsNotify, Error: n})
	}
	l = append(l, impl.Msg{Kind: impl.MsOpen, As: 5, Hold: 2, Id: 7}, impl.Msg{Kind: impl.MsOpen, As: 5, Hold: 1, Id: 7}, impl.Msg{Kind: impl.MsNotify, Error: 7})
	for _, some := range badLists() {
		l = append(l, impl.Msg{Kind: impl.MsUpdate, Gone: some}, impl.Msg{Kind: impl.MsUpdate, Came: some, Attr: impl.Attr{Path: []int{5}}},
			impl.Msg{Kind: impl.MsUpdate, Gone: some, Came: manyPrefixes(1), Attr: impl.Attr{Path: []int{5}}},
			impl.Msg{Kind: impl.MsUpdate, Gone: manyPrefixes(1), Came: some, Attr: impl.Attr{Path: []int{5}}})
	}
	for _, a := range append(badAttrs(), impl.Attr{}, impl.Attr{Path: []int{}}, impl.Attr{Pref: 100, Comm: []int{7}, Bw: 10}) {
		l = append(l, impl.Msg{Kind: impl.MsUpdate, Came: manyPrefixes(1), Attr: a})
	}
	return l
}

// show is the same for nil and an empty slice.
func show(x any) string {
	return fmt.Sprintf("%v", x)
}

func sameMsg(a, b impl.Msg) bool {
	return a.Kind == b.Kind && a.As == b.As && a.Hold == b.Hold && a.Id == b.Id && slices.Equal(a.Gone, b.Gone) && slices.Equal(a.Came, b.Came) &&
		sameAttr(a.Attr, b.Attr) && a.Error == b.Error
}

func isZeroMsg(m impl.Msg) bool {
	return sameMsg(m, impl.Msg{})
}

func wireNumbers(l []int) string {
	s := string([]byte{byte(len(l))})
	for _, n := range l {
		s += string([]byte{byte(n / 256), byte(n % 256)})
	}
	return s
}

func wirePrefixes(l []impl.Prefix) string {
	s := string([]byte{byte(len(l))})
	for _, p := range l {
		s += codeOf(p)
	}
	return s
}

// wireOf is the reference for MsgBytes.
func wireOf(m impl.Msg) string {
	body := ""
	switch m.Kind {
	case impl.MsOpen:
		body = "\x04" + wireNumbers([]int{m.As})[1:] + string([]byte{byte(m.Hold), byte(m.Id)})
	case impl.MsUpdate:
		body = wirePrefixes(m.Gone) + wirePrefixes(m.Came)
		if len(m.Came) > 0 {
			body += wireNumbers(m.Attr.Path) + wireNumbers([]int{m.Attr.Pref, m.Attr.Bw})[1:] + wireNumbers(m.Attr.Comm)
		}
	case impl.MsNotify:
		body = string([]byte{byte(m.Error)})
	}
	return string([]byte{255, 255, byte(4 + len(body)), byte(m.Kind)}) + body
}

// cursor is a part of the reference for MsgRead: it remembers that something was wrong and goes on.
type cursor struct {
	rest []byte
	bad  bool
}

func (c *cursor) number(size, low, high int) int {
	n := 0
	for range size {
		if len(c.rest) == 0 {
			c.bad = true
			return low
		}
		n = n*256 + int(c.rest[0])
		c.rest = c.rest[1:]
	}
	c.bad = c.bad || n < low || n > high
	return n
}

func (c *cursor) prefixes() []impl.Prefix {
	var l []impl.Prefix
	last := -1
	for range c.number(1, 0, 8) {
		p := impl.Prefix{Len: c.number(1, 0, 16)}
		switch {
		case p.Len > 16:
			return nil
		case p.Len > 8:
			p.Addr = c.number(2, 0, 65535)
		case p.Len > 0:
			p.Addr = 256 * c.number(1, 0, 255)
		}
		place := 100*p.Addr + p.Len
		c.bad = c.bad || strings.Contains(bits(p.Addr)[p.Len:], "1") || place <= last
		last = place
		l = append(l, p)
	}
	return l
}

func (c *cursor) numbers(low, high int) []int {
	var l []int
	for range c.number(1, low, high) {
		l = append(l, c.number(2, 1, 65535))
	}
	return l
}

func (c *cursor) message(kind int) impl.Msg {
	m := impl.Msg{Kind: kind}
	switch kind {
	case 1:
		c.number(1, 4, 4)
		m.As, m.Hold, m.Id = c.number(2, 1, 65535), c.number(1, 3, 255), c.number(1, 1, 255)
	case 2:
		m.Gone, m.Came = c.prefixes(), c.prefixes()
		if len(m.Came) > 0 {
			m.Attr.Path = c.numbers(1, 8)
			m.Attr.Pref, m.Attr.Bw = c.number(2, 0, 1000), c.number(2, 0, 1000)
			m.Attr.Comm = c.numbers(0, 4)
			c.bad = c.bad || !slices.Equal(m.Attr.Comm, slices.Compact(slices.Sorted(slices.Values(m.Attr.Comm))))
		}
	case 3:
		m.Error = c.number(1, 1, 6)
	}
	return m
}

// readOf is the reference for MsgRead.
func readOf(b []byte) (impl.Msg, int) {
	if frameOf(b) != len(b) || len(b) == 0 {
		return impl.Msg{}, 1
	}
	c := &cursor{rest: b[4:]}
	m := c.message(int(b[3]))
	if c.bad || len(c.rest) > 0 {
		return impl.Msg{}, map[int]int{1: 2, 2: 3, 3: 1, 4: 1}[int(b[3])]
	}
	return m, 0
}

// frameOf is the reference for FrameSize.
func frameOf(b []byte) int {
	s := string(b)
	if !strings.HasPrefix(s, "\xff\xff") && s != "\xff" && s != "" {
		return -1
	}
	if len(s) < 4 {
		return 0
	}
	if s[2] < 4 || s[2] > 100 || !strings.Contains("\x01\x02\x03\x04", s[3:4]) {
		return -1
	}
	return int(s[2])
}

// feedOf is the reference for any number of calls of Feed: it takes the bytes one by one.
func feedOf(b []byte) (string, []impl.Msg, int) {
	var rest []byte
	var l []impl.Msg
	for _, c := range b {
		rest = append(rest, c)
		size := frameOf(rest)
		if size < 0 {
			return "", l, 1
		}
		if size != len(rest) {
			continue
		}
		m, code := readOf(rest)
		if code != 0 {
			return "", l, code
		}
		l, rest = append(l, m), nil
	}
	return string(rest), l, 0
}

func TestMsgOk(t *testing.T) {
	for _, m := range goodMsgs() {
		if !impl.MsgOk(m) {
			t.Error(m)
		}
	}
	for _, m := range badMsgs() {
		if impl.MsgOk(m) {
			t.Error(m)
		}
	}
}

func TestMsgOkEveryNumber(t *testing.T) {
	for n := -300; n < 66000; n++ {
		for i, ok := range []bool{n >= 1 && n <= 65535, n >= 3 && n <= 255, n >= 1 && n <= 255, n >= 1 && n <= 6, n == 4, n == 2} {
			m := []impl.Msg{
				{Kind: 1, As: n, Hold: 9, Id: 7}, {Kind: 1, As: 5, Hold: n, Id: 7}, {Kind: 1, As: 5, Hold: 9, Id: n}, {Kind: 3, Error: n}, {Kind: n},
				{Kind: n, Gone: []impl.Prefix{{}}},
			}[i]
			if impl.MsgOk(m) != (ok || i == 4 && n == 2) {
				t.Fatal(m)
			}
		}
	}
}

func TestMsgBytesExamples(t *testing.T) {
	for s, m := range map[string]impl.Msg{
		"\xff\xff\x09\x01\x04\x01\x02\x09\x03": {Kind: impl.MsOpen, As: 258, Hold: 9, Id: 3},
		"\xff\xff\x09\x01\x04\xff\xff\xff\xff": {Kind: impl.MsOpen, As: 65535, Hold: 255, Id: 255},
		"\xff\xff\x04\x04":                     {Kind: impl.MsKeep},
		"\xff\xff\x05\x03\x06":                 {Kind: impl.MsNotify, Error: impl.ErCease},
		"\xff\xff\x06\x02\x00\x00":             {Kind: impl.MsUpdate},
		"\xff\xff\x09\x02\x02\x00\x08\x01\x00": {Kind: impl.MsUpdate, Gone: []impl.Prefix{{}, {Addr: 256, Len: 8}}},
		"\xff\xff\x09\x02\x01\x09\x01\x80\x00": {Kind: impl.MsUpdate, Gone: []impl.Prefix{{Addr: 384, Len: 9}}},
		"\xff\xff\x16\x02\x01\x08\x02\x01\x08\x01\x01\x01\x02\x01\x00\x03\xe8\x02\x00\x07\x03\xe8": {
			Kind: impl.MsUpdate, Gone: []impl.Prefix{{Addr: 512, Len: 8}}, Came: []impl.Prefix{{Addr: 256, Len: 8}},
			Attr: impl.Attr{Path: []int{258}, Pref: 256, Comm: []int{7, 1000}, Bw: 1000},
		},
	} {
		b, ok := impl.MsgBytes(m)
		if !ok || string(b) != s {
			t.Errorf("%v: %q %v", m, b, ok)
		}
		if x, e := impl.MsgRead([]byte(s)); e != impl.ErNone || !sameMsg(x, m) {
			t.Errorf("%q: %v %d", s, x, e)
		}
	}
}

func TestMsgInvalid(t *testing.T) {
	for _, m := range badMsgs() {
		if b, ok := impl.MsgBytes(m); ok || len(b) > 0 {
			t.Error(m, b, ok)
		}
		if b := impl.MsgText(m); len(b) > 0 {
			t.Error(m, string(b))
		}
	}
}

// Promise 1: every message is recovered from its encoding.
func TestPromise1EveryMessage(t *testing.T) {
	longest := 0
	for _, m := range goodMsgs() {
		b, ok := impl.MsgBytes(m)
		if !ok || string(b) != wireOf(m) {
			t.Fatal(m, b, ok)
		}
		longest = max(longest, len(b))
		if impl.FrameSize(b) != len(b) {
			t.Fatal("size", m, b)
		}
		if x, e := impl.MsgRead(b); e != impl.ErNone || !sameMsg(x, m) {
			t.Fatal(m, x, e)
		}
	}
	if longest != 84 {
		t.Error("the longest message is missing", longest)
	}
}

func checkRead(t *testing.T, b []byte) {
	t.Helper()
	want, code := readOf(b)
	m, e := impl.MsgRead(b)
	if e != code || !sameMsg(m, want) {
		t.Fatalf("%q: %v %d instead of %v %d", b, m, e, want, code)
	}
	if e == impl.ErNone && (wireOf(m) != string(b) || !impl.MsgOk(m)) {
		t.Fatalf("%q is not the encoding of %v", b, m)
	}
}

// resized tells the true number of bytes in the third of them, so that only what follows is wrong.
func resized(b []byte) []byte {
	c := slices.Clone(b)
	if len(c) > 2 {
		c[2] = byte(len(c))
	}
	return c
}

// Promise 1: bytes that are decoded are exactly the encoding of the message.
func TestPromise1OnlyExactMessages(t *testing.T) {
	for _, m := range fewMsgs() {
		b := []byte(wireOf(m))
		for i := range len(b) + 1 {
			checkRead(t, b[:i])
			checkRead(t, resized(b[:i]))
			checkRead(t, b[i:])
			for c := range 256 {
				more := slices.Insert(slices.Clone(b), i, byte(c))
				checkRead(t, more)
				checkRead(t, resized(more))
				if i < len(b) {
					other := slices.Clone(b)
					other[i] = byte(c)
					checkRead(t, other)
				}
			}
			if i < len(b) {
				fewer := slices.Delete(slices.Clone(b), i, i+1)
				checkRead(t, fewer)
				checkRead(t, resized(fewer))
			}
		}
	}
}

func TestMsgReadShort(t *testing.T) {
	checkRead(t, nil)
	checkRead(t, []byte{})
	for kind := range 6 {
		head := []byte{255, 255, 4, byte(kind)}
		checkRead(t, head)
		for x := range 65536 {
			checkRead(t, resized(append(head, byte(x))))
			checkRead(t, resized(append(head, byte(x>>8), byte(x))))
		}
		for x := range 4096 {
			checkRead(t, resized(append(head, 0, byte(x>>8), byte(x), byte(x/7))))
			checkRead(t, resized(append(head, 1, byte(x>>8), byte(x), 0)))
		}
	}
}

func TestMsgReadRandom(t *testing.T) {
	r := rand.New(rand.NewSource(4))
	small := []byte{0, 1, 2, 3, 4, 5, 8, 9, 16, 17, 128, 255}
	for range 100000 {
		b := []byte{255, 255, 0, byte(1 + r.Intn(4))}
		for range r.Intn(30) {
			b = append(b, small[r.Intn(len(small))])
		}
		checkRead(t, resized(b))
	}
}

// The codes that tell why bytes were not decoded.
func TestMsgReadCodes(t *testing.T) {
	for s, want := range map[string]int{
		"": impl.ErHead, "\xff": impl.ErHead, "\xff\xff\x04": impl.ErHead, "\xff\xff\x04\x00": impl.ErHead, "\xff\xff\x04\x05": impl.ErHead,
		"\xff\xfe\x04\x04": impl.ErHead, "\xfe\xff\x04\x04": impl.ErHead, "\xff\xff\x03\x04": impl.ErHead, "\xff\xff\x05\x04": impl.ErHead,
		"\xff\xff\x04\x04\x00": impl.ErHead, "\xff\xff\x05\x04\x00": impl.ErHead, "\xff\xff\x04\x03": impl.ErHead, "\xff\xff\x05\x03\x00": impl.ErHead,
		"\xff\xff\x05\x03\x07": impl.ErHead, "\xff\xff\x06\x03\x01\x01": impl.ErHead, "\xff\xff\x04\x01": impl.ErOpen,
		"\xff\xff\x09\x01\x03\x01\x02\x09\x03": impl.ErOpen, "\xff\xff\x09\x01\x05\x01\x02\x09\x03": impl.ErOpen, "\xff\xff\x09\x01\x04\x00\x00\x09\x03": impl.ErOpen,
		"\xff\xff\x09\x01\x04\x01\x02\x02\x03": impl.ErOpen, "\xff\xff\x09\x01\x04\x01\x02\x09\x00": impl.ErOpen, "\xff\xff\x0a\x01\x04\x01\x02\x09\x03\x00": impl.ErOpen,
		"\xff\xff\x08\x01\x04\x01\x02\x09": impl.ErOpen, "\xff\xff\x0a\x01\x04\x01\x02\x09\x03": impl.ErHead, "\xff\xff\x04\x02": impl.ErUpdate,
		"\xff\xff\x05\x02\x00": impl.ErUpdate, "\xff\xff\x07\x02\x00\x00\x00": impl.ErUpdate, "\xff\xff\x07\x02\x01\x11\x00": impl.ErUpdate,
		"\xff\xff\x08\x02\x02\x00\x00\x00": impl.ErUpdate, "\xff\xff\x0d\x02\x00\x01\x00\x00\x00\x00\x00\x00\x00": impl.ErUpdate,
		"\xff\xff" + "\x64\x02" + strings.Repeat("\x00", 96): impl.ErUpdate, "\xff\xff" + "\x65\x02" + strings.Repeat("\x00", 97): impl.ErHead,
		"\xff\xff" + "\x04\x02" + strings.Repeat("\x00", 256): impl.ErHead,
	} {
		if m, e := impl.MsgRead([]byte(s)); e != want || !isZeroMsg(m) {
			t.Errorf("%q: %v %d", s, m, e)
		}
	}
}

func TestFrameSize(t *testing.T) {
	check := func(b ...byte) {
		if size := impl.FrameSize(b); size != frameOf(b) {
			t.Fatal(b, size)
		}
	}
	check()
	for x := range 256 {
		check(byte(x))
		check(255, 255, byte(x))
		for y := range 256 {
			check(byte(x), byte(y))
			check(byte(x), byte(y), 3)
			check(byte(x), byte(y), 4, 1)
			check(255, 255, byte(x), byte(y))
			check(255, 255, byte(x), byte(y), 0)
		}
	}
	for s, want := range map[string]int{
		"": 0, "\xff": 0, "\xff\xff": 0, "\xff\xff\x00": 0, "\xff\xff\x03": 0, "\xff\xff\x65": 0, "\xfe": -1, "\xff\xfe": -1, "\x00\xff\x04\x01": -1,
		"\xff\xff\x04\x01": 4, "\xff\xff\x64\x04": 100, "\xff\xff\x03\x01": -1, "\xff\xff\x65\x01": -1, "\xff\xff\x04\x00": -1, "\xff\xff\x04\x05": -1,
		"\xff\xff\x09\x01" + strings.Repeat("\x00", 5000): 9, "\xff\xff\x00\x00": -1, "\xff\xff\xff\xff": -1,
	} {
		if size := impl.FrameSize([]byte(s)); size != want {
			t.Errorf("%q: %d", s, size)
		}
	}
}

func goodStreams() []string {
	l := []string{"", "\xff", "\xff\xff", "\xff\xff\x00", "\xff\xff\xff", "\xff\xff\x64\x02", "\xff\xff\x64\x02" + strings.Repeat("\x00", 95), "\xff\xff\x05\x03", "\xff\xff\x09\x01\xff\xff\xff\xff"}
	for _, m := range fewMsgs() {
		s := wireOf(m)
		for i := range len(s) {
			l = append(l, s[:i])
		}
	}
	return l
}

func badStreams() []string {
	l := []string{
		"\x00", "\xfe\xff", "\xff\x00", "\xff\xff\x00\x01", "\xff\xff\x03\x01", "\xff\xff\x04\x00", "\xff\xff\x65\x01", "\xff\xff\x64\x05", "\xff\xff\x04\x04",
		"\xff\xff\x04\x04\xff", "\xff\xff\x64\x02" + strings.Repeat("\x00", 96), "\xff\xff\x64\x02" + strings.Repeat("\x00", 97),
		"\xff\xff\x65\x02" + strings.Repeat("\x00", 90), "\xff\xff\x65\x02" + strings.Repeat("\x00", 96), "\xff\xff\x09\x01\x00\x00\x00\x00\x00",
		strings.Repeat("\xff", 100), strings.Repeat("\xff", 5000), "\xff\xff\x09\x01" + strings.Repeat("\x00", 3000),
	}
	for _, m := range fewMsgs() {
		l = append(l, wireOf(m), wireOf(m)+"\xff", wireOf(m)+wireOf(m))
	}
	return l
}

func TestStreamOk(t *testing.T) {
	for _, s := range goodStreams() {
		if !impl.StreamOk(impl.Stream{B: []byte(s)}) {
			t.Errorf("%q", s)
		}
	}
	for _, s := range badStreams() {
		if impl.StreamOk(impl.Stream{B: []byte(s)}) {
			t.Errorf("%q", s)
		}
	}
	if !impl.StreamOk(impl.Stream{}) || !impl.StreamOk(impl.Stream{B: []byte{}}) {
		t.Error("empty")
	}
}

// feedAll feeds the pieces until there is an error.
func feedAll(t *testing.T, pieces [][]byte) (string, []impl.Msg, int) {
	t.Helper()
	var s impl.Stream
	var all []impl.Msg
	for _, p := range pieces {
		next, l, e := impl.Feed(s, p)
		all = append(all, l...)
		if e != impl.ErNone {
			if len(next.B) > 0 {
				t.Fatal("bytes remain beside an error", next, e)
			}
			return "", all, e
		}
		if !impl.StreamOk(next) {
			t.Fatal("the stream is not valid", next)
		}
		s = next
	}
	return string(s.B), all, impl.ErNone
}

func checkFeed(t *testing.T, all []byte, cuts ...int) {
	t.Helper()
	var pieces [][]byte
	at := 0
	for _, c := range append(slices.Sorted(slices.Values(cuts)), len(all)) {
		pieces = append(pieces, all[at:c])
		at = c
	}
	rest, l, code := feedOf(all)
	s, got, e := feedAll(t, pieces)
	if s != rest || show(got) != show(l) || e != code {
		t.Fatalf("%q cut at %v: %q %v %d instead of %q %v %d", all, cuts, s, got, e, rest, l, code)
	}
}

// faults are beginnings of messages that cannot be continued, or whole messages that are wrong, and incomplete ones.
var faults = []string{
	"", "\x00", "\xff", "\xff\x00", "\xff\xff\x03", "\xff\xff\x03\x01", "\xff\xff\x04\x09", "\xff\xff\x65\x02", "\xff\xff\x09\x01\x04\x00\x00\x09\x03", "\xff\xff\x04\x01", "\xff\xff\x04\x02",
	"\xff\xff\x04\x03", "\xff\xff\x05\x03\x00", "\xff\xff\x05\x03\x07", "\xff\xff\x05\x04\x00", "\xff\xff\x07\x02\x00\x00\x00", "\xff\xff\x07\x02\x01\x11\x00", "\xff\xff\x09\x01\x04\x00", "\xff\xff\x64\x02\x00",
}

func TestFeedExamples(t *testing.T) {
	open, keep := "\xff\xff\x09\x01\x04\x01\x02\x09\x03", "\xff\xff\x04\x04"
	for _, x := range []struct {
		s, b, rest string
		kinds      string
		e          int
	}{
		{"", "", "", "", impl.ErNone}, {"", open + keep, "", "14", impl.ErNone}, {"", open + keep + "\xff", "\xff", "14", impl.ErNone},
		{"\xff", "", "\xff", "", impl.ErNone}, {"\xff\xff\x09", open[3:], "", "1", impl.ErNone}, {open[:8], open[8:] + open[:8], open[:8], "1", impl.ErNone},
		{open[:5], open[5:8], open[:8], "", impl.ErNone}, {"", keep + "\x00" + keep, "", "4", impl.ErHead}, {"", open + keep + "\xff\xff\x03\x04", "", "14", impl.ErHead},
		{"", keep + "\xff\xff\x03", "\xff\xff\x03", "4", impl.ErNone}, {"\xff\xff\x03", "\x01", "", "", impl.ErHead}, {"\xff", "\xfe", "", "", impl.ErHead},
		{open[:4], "\x05\x01\x02\x09\x03" + keep, "", "", impl.ErOpen}, {"", keep + "\xff\xff\x05\x02\x00" + keep, "", "4", impl.ErUpdate},
		{"", keep + open + "\xff\xff\x05\x03\x09" + keep, "", "41", impl.ErHead}, {"\xff\xff\x05\x04", "\x00" + keep, "", "", impl.ErHead},
	} {
		s, l, e := impl.Feed(impl.Stream{B: []byte(x.s)}, []byte(x.b))
		kinds := ""
		for _, m := range l {
			kinds += show(m.Kind)
		}
		if string(s.B) != x.rest || kinds != x.kinds || e != x.e {
			t.Errorf("%q %q: %q %v %d", x.s, x.b, s.B, l, e)
		}
	}
}

func TestFeedInvalid(t *testing.T) {
	for _, s := range badStreams() {
		for _, b := range []string{"", "\xff", "\xff\xff\x04\x04", s, strings.Repeat("\xff\xff\x04\x04", 501)} {
			if next, l, e := impl.Feed(impl.Stream{B: []byte(s)}, []byte(b)); e != impl.ErState || len(next.B) > 0 || len(l) > 0 {
				t.Errorf("%q %q: %v %v %d", s, b, next, l, e)
			}
		}
	}
}

func TestFeedLimit(t *testing.T) {
	keeps := strings.Repeat("\xff\xff\x04\x04", 600)
	for n := 1990; n <= 2010; n++ {
		for _, s := range []string{"", "\xff", "\xff\xff\x04", "\xff\xff\x64\x02"} {
			next, l, e := impl.Feed(impl.Stream{B: []byte(s)}, []byte(keeps[len(s):len(s)+n]))
			switch {
			case n > 2000:
				if e != impl.ErState || len(next.B) > 0 || len(l) > 0 {
					t.Fatal(n, s, next, l, e)
				}
			case len(s) == 4:
				if e != impl.ErUpdate || len(next.B) > 0 || len(l) > 0 {
					t.Fatal(n, s, next, l, e)
				}
			default:
				all := len(s) + n
				if e != impl.ErNone || len(l) != all/4 || string(next.B) != keeps[:all%4] {
					t.Fatal(n, s, next, len(l), e)
				}
			}
		}
	}
	// The limit is one for a part, not for the bytes that are wrong or the stream.
	if _, l, e := impl.Feed(impl.Stream{B: []byte(keeps[:3])}, []byte("\x04"+keeps[:1995]+"\x00\x00\x00\x00")); e != impl.ErHead || len(l) != 499 {
		t.Error(len(l), e)
	}
	if _, l, e := impl.Feed(impl.Stream{}, make([]byte, 2001)); e != impl.ErState || len(l) > 0 {
		t.Error(l, e)
	}
	if _, l, e := impl.Feed(impl.Stream{}, make([]byte, 2000)); e != impl.ErHead || len(l) > 0 {
		t.Error(l, e)
	}
}

// Promise 4: the division of bytes into pieces does not matter.
func TestPromise4EveryDivision(t *testing.T) {
	few := fewMsgs()
	for i, m := range few {
		other := few[(i+1)%8]
		all := []byte(wireOf(other) + wireOf(m) + faults[i%len(faults)])
		for a := range len(all) + 1 {
			checkFeed(t, all, a)
			for b := a; b <= len(all) && i < 8; b++ {
				checkFeed(t, all, a, b)
			}
		}
	}
	for _, fault := range faults {
		for _, behind := range []string{"", "\xff\xff\x04\x04", "\x00"} {
			all := []byte(wireOf(few[1]) + "\xff\xff\x04\x04" + fault + behind)
			for a := range len(all) + 1 {
				for b := a; b <= len(all); b++ {
					checkFeed(t, all, a, b)
				}
			}
		}
	}
}

func TestPromise4ByteByByte(t *testing.T) {
	all := []byte{}
	for _, m := range fewMsgs() {
		all = append(all, wireOf(m)...)
	}
	for _, step := range []int{1, 2, 3, 4, 5, 7, 9, 84, 99, 100, 101, 1000} {
		var cuts []int
		for c := step; c < len(all); c += step {
			cuts = append(cuts, c)
		}
		for n := len(all) - 100; n <= len(all); n++ {
			checkFeed(t, all[:n], slices.DeleteFunc(slices.Clone(cuts), func(c int) bool { return c > n })...)
		}
	}
}

// Promise 4: messages that are sent are received unchanged, however the bytes arrive.
func TestPromise4SentIsReceived(t *testing.T) {
	r := rand.New(rand.NewSource(5))
	sent := goodMsgs()
	for range 20 {
		r.Shuffle(len(sent), func(i, j int) { sent[i], sent[j] = sent[j], sent[i] })
		var all []byte
		for _, m := range sent[:300] {
			b, ok := impl.MsgBytes(m)
			if !ok {
				t.Fatal(m)
			}
			all = append(all, b...)
		}
		var pieces [][]byte
		for rest := all; len(rest) > 0; {
			n := min(len(rest), r.Intn([]int{3, 30, 300, 2001}[r.Intn(4)]))
			pieces = append(pieces, rest[:n])
			rest = rest[n:]
		}
		rest, l, e := feedAll(t, pieces)
		if rest != "" || e != impl.ErNone || len(l) != 300 {
			t.Fatal(rest, len(l), e)
		}
		for i, m := range l {
			if !sameMsg(m, sent[i]) {
				t.Fatal(m, sent[i])
			}
		}
	}
}

// Promise 4, with bytes that are wrong somewhere.
func TestPromise4Disturbed(t *testing.T) {
	r := rand.New(rand.NewSource(6))
	few := fewMsgs()
	for range 3000 {
		var all []byte
		for range 1 + r.Intn(8) {
			all = append(all, wireOf(few[r.Intn(len(few))])...)
		}
		if r.Intn(3) > 0 {
			all[r.Intn(len(all))] = byte(r.Intn(256) & r.Intn(256))
		}
		all = all[:len(all)-r.Intn(min(len(all), 5))]
		var cuts []int
		for range r.Intn(10) {
			cuts = append(cuts, r.Intn(len(all)+1))
		}
		checkFeed(t, all, cuts...)
	}
}

func TestMsgText(t *testing.T) {
	for s, m := range map[string]impl.Msg{
		"open 258 9 3":       {Kind: impl.MsOpen, As: 258, Hold: 9, Id: 3},
		"open 65535 255 255": {Kind: impl.MsOpen, As: 65535, Hold: 255, Id: 255},
		"open 1 3 1":         {Kind: impl.MsOpen, As: 1, Hold: 3, Id: 1, Gone: []impl.Prefix{}, Attr: impl.Attr{Comm: []int{}}},
		"keep":               {Kind: impl.MsKeep},
		"notify 1":           {Kind: impl.MsNotify, Error: impl.ErHead},
		"notify 6":           {Kind: impl.MsNotify, Error: impl.ErCease},
		"update":             {Kind: impl.MsUpdate},
		"update -0.0/0":      {Kind: impl.MsUpdate, Gone: []impl.Prefix{{}}, Came: []impl.Prefix{}},
		"update -1.0/8 -1.128/9 -2.0/8": {
			Kind: impl.MsUpdate, Gone: []impl.Prefix{{Addr: 256, Len: 8}, {Addr: 384, Len: 9}, {Addr: 512, Len: 8}},
		},
		"update +255.255/16 pref 0 bw 0 path 1": {Kind: impl.MsUpdate, Came: []impl.Prefix{{Addr: 65535, Len: 16}}, Attr: impl.Attr{Path: []int{1}}},
		"update -2.0/8 -3.0/8 +0.0/0 +1.0/8 pref 100 bw 10 path 7 8 marks 9 1000": {
			Kind: impl.MsUpdate, Gone: []impl.Prefix{{Addr: 512, Len: 8}, {Addr: 768, Len: 8}}, Came: []impl.Prefix{{}, {Addr: 256, Len: 8}},
			Attr: impl.Attr{Path: []int{7, 8}, Pref: 100, Comm: []int{9, 1000}, Bw: 10},
		},
	} {
		if string(impl.MsgText(m)) != s {
			t.Errorf("%q: %q", s, impl.MsgText(m))
		}
	}
	for _, m := range goodMsgs() {
		if m.Kind != impl.MsUpdate {
			continue
		}
		s := "update"
		for _, p := range m.Gone {
			s += " -" + textOf(p)
		}
		for _, p := range m.Came {
			s += " +" + textOf(p)
		}
		if len(m.Came) > 0 {
			s += " " + string(impl.AttrText(m.Attr))
		}
		if string(impl.MsgText(m)) != s {
			t.Fatalf("%q: %q", s, impl.MsgText(m))
		}
	}
}

// What lies behind the length of a slice neither spoils a message nor belongs to it.
func TestMsgBehindLength(t *testing.T) {
	l := append(manyPrefixes(3), manyPrefixes(9)...)
	path, comm := []int{5, 6, 0, 0, 0, 0, 0, 0, 0, 0}, []int{7, 3, 3, 3, 3, 3}
	m := impl.Msg{Kind: impl.MsUpdate, Gone: l[:1], Came: l[:3], Attr: impl.Attr{Path: path[:2], Comm: comm[:1]}}
	if !impl.MsgOk(m) || string(impl.MsgText(m)) != "update -0.0/8 +0.0/8 +0.0/9 +0.0/16 pref 0 bw 0 path 5 6 marks 7" {
		t.Error(string(impl.MsgText(m)))
	}
	if b, ok := impl.MsgBytes(m); !ok || string(b) != wireOf(m) {
		t.Error(b, ok)
	}
	keep := impl.Msg{Kind: impl.MsKeep, Gone: l[:0], Came: l[:0], Attr: impl.Attr{Path: path[:0], Comm: comm[:0]}}
	if b, ok := impl.MsgBytes(keep); !ok || string(b) != "\xff\xff\x04\x04" || string(impl.MsgText(keep)) != "keep" {
		t.Error(b, ok)
	}
}

func TestBytesBehindLength(t *testing.T) {
	for _, m := range fewMsgs() {
		b := []byte(wireOf(m) + wireOf(m))
		for n := range len(b) / 2 {
			if x, e := impl.MsgRead(b[:n]); e != impl.ErHead || !isZeroMsg(x) {
				t.Fatal(b[:n], x, e)
			}
			if size := impl.FrameSize(b[:n]); n < 4 && size != 0 {
				t.Fatal(b[:n], size)
			}
			if !impl.StreamOk(impl.Stream{B: b[:n]}) {
				t.Fatal(b[:n])
			}
			for k := n; k < len(b)/2; k++ {
				if s, l, e := impl.Feed(impl.Stream{B: b[:n]}, b[n:k]); string(s.B) != string(b[:k]) || len(l) > 0 || e != impl.ErNone {
					t.Fatal(b[:n], b[n:k], s, l, e)
				}
			}
		}
	}
}

// crowdedMsg gives the same message with its lists side by side in two arrays, and these arrays.
func crowdedMsg(m impl.Msg) (impl.Msg, []impl.Prefix, []int) {
	g, c := len(m.Gone), len(m.Came)
	whole := slices.Concat([]impl.Prefix{{Addr: -1}}, m.Gone, m.Came, []impl.Prefix{{Addr: -2}, {Addr: -3}})
	m.Gone, m.Came = whole[1:1+g], whole[1+g:1+g+c]
	a, numbers := crowded(m.Attr)
	m.Attr = a
	return m, whole, numbers
}

func TestMsgArgumentsKept(t *testing.T) {
	for _, x := range append(goodMsgs(), badMsgs()...) {
		m, prefixes, numbers := crowdedMsg(x)
		were, had := slices.Clone(prefixes), slices.Clone(numbers)
		impl.MsgOk(m)
		impl.MsgBytes(m)
		impl.MsgText(m)
		if !slices.Equal(prefixes, were) || !slices.Equal(numbers, had) {
			t.Fatal(x, prefixes, numbers)
		}
	}
}

func TestBytesArgumentsKept(t *testing.T) {
	for _, s := range append(goodStreams(), badStreams()...) {
		for _, more := range []string{"", "\xff\xff\x04\x04", "\xff\xff\x05\x03\x01\xff", "\x00\x00\x00\x00", strings.Repeat("\xff", 2001)} {
			// The stream lies behind the part, so that what is appended to it in place would be seen.
			both, whole := roomy(more + s)
			was := string(whole)
			part, b := both[:len(more)], both[len(more):]
			impl.FrameSize(b)
			impl.MsgRead(b)
			impl.MsgRead(part)
			impl.StreamOk(impl.Stream{B: b})
			impl.Feed(impl.Stream{B: b}, part)
			impl.Feed(impl.Stream{}, part)
			impl.Feed(impl.Stream{B: b}, nil)
			if string(whole) != was {
				t.Fatalf("%q became %q", was, whole)
			}
		}
	}
}

func spoilPrefixes(l []impl.Prefix) {
	l = l[:cap(l)]
	for i := range l {
		l[i] = impl.Prefix{Addr: -99, Len: -99}
	}
}

// spoilPart overwrites one of the four lists of a message, with its spare capacity.
func spoilPart(m impl.Msg, part int) {
	switch part {
	case 0:
		spoilPrefixes(m.Gone)
	case 1:
		spoilPrefixes(m.Came)
	case 2:
		spoil(m.Attr.Path)
	case 3:
		spoil(m.Attr.Comm)
	}
}

func partsShown(m impl.Msg) [4]string {
	return [4]string{show(m.Gone), show(m.Came), show(m.Attr.Path), show(m.Attr.Comm)}
}

func TestMsgBytesAreNew(t *testing.T) {
	for _, x := range fewMsgs() {
		m, prefixes, numbers := crowdedMsg(x)
		first, _ := impl.MsgBytes(m)
		second, _ := impl.MsgBytes(m)
		text, again := impl.MsgText(m), impl.MsgText(m)
		want := string(again)
		fill(first[:cap(first)], '!')
		fill(text[:cap(text)], '!')
		spoilPrefixes(prefixes)
		spoil(numbers)
		if string(second) != wireOf(x) || string(again) != want || string(impl.MsgText(x)) != want {
			t.Fatal(x, second, string(again))
		}
		if b, ok := impl.MsgBytes(x); !ok || string(b) != wireOf(x) {
			t.Fatal(x, b)
		}
	}
}

func TestMsgReadIsNew(t *testing.T) {
	for _, x := range fewMsgs() {
		for part := range 4 {
			b, whole := roomy(wireOf(x))
			was := string(whole)
			first, _ := impl.MsgRead(b)
			second, _ := impl.MsgRead(b)
			want := partsShown(x)
			spoilPart(first, part)
			got := partsShown(first)
			want[part] = got[part]
			if got != want {
				t.Fatal("two lists share memory", x, first)
			}
			if string(whole) != was || !sameMsg(second, x) {
				t.Fatal("the result shares memory", x, second)
			}
			fill(whole, '?')
			if !sameMsg(second, x) {
				t.Fatal("the argument is kept", x, second)
			}
		}
	}
}

func TestFeedIsNew(t *testing.T) {
	few := fewMsgs()[:12]
	var code string
	for _, m := range few {
		code += wireOf(m)
	}
	for _, cut := range []int{0, 1, 3, 5, 8} {
		for i := range few {
			head := wireOf(few[1])
			stream, whole := roomy(head[:cut])
			b, bytes := roomy(head[cut:] + code + head[:8])
			was := string(whole) + string(bytes)
			s, l, e := impl.Feed(impl.Stream{B: stream}, b)
			s2, l2, e2 := impl.Feed(impl.Stream{B: stream}, b)
			if e != impl.ErNone || e2 != e || len(l) != len(few)+1 || string(s.B) != head[:8] {
				t.Fatal(s, l, e)
			}
			for part := range 4 {
				spoilPart(l[i+1], part)
			}
			for j, m := range l[1:] {
				if j != i && !sameMsg(m, few[j]) {
					t.Fatal("two messages share memory", m)
				}
			}
			fill(s.B[:cap(s.B)], '!')
			if string(whole)+string(bytes) != was || string(s2.B) != head[:8] || show(l2[1:]) != show(few) {
				t.Fatal("the result shares memory", s2, l2)
			}
			fill(whole, '?')
			fill(bytes, '?')
			if string(s2.B) != head[:8] || show(l2[1:]) != show(few) {
				t.Fatal("the argument is kept", s2, l2)
			}
		}
	}
	for _, s := range goodStreams() {
		b, whole := roomy(s)
		was := string(whole)
		next, _, _ := impl.Feed(impl.Stream{B: b}, nil)
		fill(next.B[:cap(next.B)], '!')
		part, _, _ := impl.Feed(impl.Stream{}, b)
		fill(part.B[:cap(part.B)], '!')
		if string(whole) != was {
			t.Fatalf("%q became %q", was, whole)
		}
	}
}
