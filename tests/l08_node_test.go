package tests

import (
	"math"
	"math/rand"
	"slices"
	"testing"

	"loop.example/g00557/impl"
)

// ownEntries are those that a switch has of its own prefixes.
func ownEntries(own []impl.Prefix, bw int) []impl.Entry {
	var l []impl.Entry
	for _, p := range own {
		l = append(l, entryOf(p, -1, impl.Attr{Pref: 100, Bw: bw}))
	}
	return l
}

// nodeOf is a switch that knows these entries of its peers, and has sent those.
func nodeOf(as int, own []impl.Prefix, bw int, known, sent []impl.Entry) impl.Node {
	return impl.Node{As: as, Own: own, Bw: bw, Rib: tableOf(append(ownEntries(own, bw), known...)...), Sent: tableOf(sent...)}
}

func sameNode(a, b impl.Node) bool {
	return a.As == b.As && slices.Equal(a.Own, b.Own) && a.Bw == b.Bw && a.Drain == b.Drain && sameRib(a.Rib, b.Rib) && sameRib(a.Sent, b.Sent)
}

func isZeroNode(n impl.Node) bool {
	return sameNode(n, impl.Node{})
}

func sameMsgs(a, b []impl.Msg) bool {
	return slices.EqualFunc(a, b, sameMsg)
}

// knownAttrs are those that a switch may know of a peer: with a Path that does not contain the switch itself.
func knownAttrs(as int) []impl.Attr {
	full := []impl.Attr{
		{Path: []int{11}, Pref: 100, Comm: []int{1, 2, 3, 4}}, {Path: []int{11}, Pref: 100, Comm: []int{1001, 1002, 1003, 1004}}, {Path: []int{12, 11}, Comm: []int{998, 999, 1000, 1001}},
		{Path: []int{13}, Pref: 100, Comm: []int{999, 1001, 1002}}, {Path: []int{14, 13}, Pref: 1000, Comm: []int{1001}, Bw: 1000}, {Path: []int{21, 22, 23, 24, 25, 26, 27}, Pref: 100},
		{Path: []int{21, 22, 23, 24, 25, 26, 27, 28}, Pref: 100}, {Path: []int{13}, Pref: 100, Bw: 7}, {Path: []int{14}, Pref: 100, Bw: 7},
	}
	return slices.DeleteFunc(slices.Concat(shutAttrs(), sentAttrs(), full), func(a impl.Attr) bool {
		return len(a.Path) == 0 || slices.Contains(a.Path, as)
	})
}

// manyEntries are of one peer and of the first n of many prefixes.
func manyEntries(n, peer, as int) []impl.Entry {
	var l []impl.Entry
	attrs := knownAttrs(as)
	for i, p := range manyPrefixes(n) {
		l = append(l, entryOf(p, peer, attrs[i%len(attrs)]))
	}
	return l
}

func ownLists() [][]impl.Prefix {
	return [][]impl.Prefix{
		nil, {}, {{}}, {{Addr: 256, Len: 8}}, {{Addr: 65535, Len: 16}}, {{}, {Len: 1}}, {{Addr: 256, Len: 8}, {Addr: 256, Len: 9}},
		{{Addr: 256, Len: 16}, {Addr: 512, Len: 8}}, {{}, {Addr: 65535, Len: 16}},
	}
}

// badOwns are valid but for one thing.
func badOwns() [][]impl.Prefix {
	p, q, s := impl.Prefix{Addr: 256, Len: 8}, impl.Prefix{Addr: 256, Len: 9}, impl.Prefix{Addr: 512, Len: 8}
	l := [][]impl.Prefix{{p, q, s}, {p, p}, {q, p}, {s, p}, {s, q}, {p, q, p}, {p, p, p}, manyPrefixes(4), manyPrefixes(60), manyPrefixes(61), manyPrefixes(700), make([]impl.Prefix, 2)}
	for _, bad := range badPrefixes() {
		l = append(l, []impl.Prefix{bad}, []impl.Prefix{bad, s}, []impl.Prefix{p, bad})
	}
	return l
}

func randomEntries(r *rand.Rand, from []impl.Prefix, as, most int) []impl.Entry {
	var l []impl.Entry
	attrs := knownAttrs(as)
	for range r.Intn(most + 1) {
		l = append(l, entryOf(from[r.Intn(len(from))], r.Intn(8), attrs[r.Intn(len(attrs))]))
	}
	return l
}

// randomSent is near to what the switch wants: some entries of it are missing, others have other attributes, and some more are there.
func randomSent(r *rand.Rand, n impl.Node, from []impl.Prefix) impl.Rib {
	var l []impl.Entry
	attrs := knownAttrs(0)
	n.Drain = n.Drain != (r.Intn(6) == 0)
	for _, iface := range r.Perm(8)[:r.Intn(5)] {
		for _, e := range wantsOf(n, iface) {
			switch r.Intn(9) {
			case 0:
				continue
			case 1:
				e.Attr = attrs[r.Intn(len(attrs))]
			case 2:
				e.Attr.Bw = r.Intn(3)
			}
			l = append(l, e)
		}
	}
	more := randomEntries(r, from, 0, 30)
	if r.Intn(2) == 0 {
		for i := range more {
			more[i].Peer = 3
		}
	}
	table := tableOf(append(l, more...)...)
	for len(table.L) > 60 {
		at := r.Intn(len(table.L))
		table.L = slices.Delete(table.L, at, at+1)
	}
	return table
}

func randomNode(r *rand.Rand) impl.Node {
	from := [][]impl.Prefix{ribPrefixes(), manyPrefixes(30), manyPrefixes(60)}[r.Intn(3)]
	as := []int{1, 5, 77, 65535}[r.Intn(4)]
	n := nodeOf(as, somePlaces(r, from, 2), randomBws(r, 1)[0], randomEntries(r, from, as, 58), nil)
	n.Bw = min(n.Bw, 1000)
	n.Drain = r.Intn(3) == 0
	if r.Intn(5) > 0 {
		n.Sent = randomSent(r, n, from)
	}
	return n
}

func goodNodes() []impl.Node {
	empty := impl.Rib{L: []impl.Entry{}}
	l := []impl.Node{{As: 1}, {As: 65535, Own: []impl.Prefix{}, Drain: true, Rib: empty, Sent: empty}}
	for _, as := range []int{1, 2, 100, 65534, 65535} {
		for _, own := range ownLists() {
			for _, bw := range []int{0, 1, 999, 1000} {
				l = append(l, nodeOf(as, own, bw, nil, nil))
			}
		}
	}
	for _, n := range []int{1, 7, 8, 9, 30, 58, 59, 60} {
		l = append(l, nodeOf(77, nil, n, manyEntries(n, 3, 77), nil), nodeOf(77, nil, n, nil, manyEntries(n, 7, 77)), nodeOf(77, nil, n, manyEntries(n, 0, 77), manyEntries(60, n%8, 0)))
	}
	for _, own := range ownLists() {
		far := []impl.Entry{}
		for i, p := range manyPrefixes(58) {
			far = append(far, entryOf(impl.Prefix{Addr: p.Addr + 1024, Len: p.Len}, i%8, knownAttrs(9)[i%9]))
		}
		l = append(l, nodeOf(9, own, 10, far, far))
	}
	r := rand.New(rand.NewSource(40))
	for range 150 {
		l = append(l, randomNode(r))
	}
	return l
}

// plainNode is valid: it has two prefixes, of which one is known from a peer as well, and it has sent some things.
func plainNode() impl.Node {
	p, q, s := impl.Prefix{Addr: 256, Len: 8}, impl.Prefix{Addr: 256, Len: 9}, impl.Prefix{Addr: 512, Len: 8}
	a, b := impl.Attr{Path: []int{5, 6, 7}, Pref: 100}, impl.Attr{Path: []int{9}, Bw: 3}
	known := []impl.Entry{entryOf(q, 0, a), entryOf(q, 7, b), entryOf(s, 2, a), entryOf(s, 3, a)}
	return nodeOf(77, []impl.Prefix{p, s}, 10, known, []impl.Entry{entryOf(q, 0, a), entryOf(q, 5, b), entryOf(s, 7, a)})
}

// badTables have entries that each may be in the tables of a switch, but as a table they are not valid.
func badTables() []impl.Rib {
	attrs := knownAttrs(77)
	l := []impl.Rib{{L: manyEntries(61, 3, 77)}, {L: manyEntries(62, 0, 77)}, {L: manyEntries(700, 7, 77)}}
	for i := range 19 {
		twice, exchanged := manyEntries(20, 4, 77), manyEntries(20, 4, 77)
		twice[i+1].Prefix = twice[i].Prefix
		exchanged[i], exchanged[i+1] = exchanged[i+1], exchanged[i]
		l = append(l, impl.Rib{L: twice}, impl.Rib{L: exchanged})
	}
	p := impl.Prefix{Addr: 256, Len: 8}
	l = append(l, impl.Rib{L: []impl.Entry{entryOf(p, 3, attrs[0]), entryOf(p, 2, attrs[1])}})
	for _, e := range badEntries() {
		l = append(l, impl.Rib{L: []impl.Entry{e}}, impl.Rib{L: append(manyEntries(3, 4, 77), e)})
	}
	return l
}

// badOwnNodes are wrong in what is the switch's own.
func badOwnNodes() []impl.Node {
	var l []impl.Node
	for _, as := range badNumbers() {
		n := plainNode()
		n.As = as
		l = append(l, n, impl.Node{As: as})
	}
	for _, as := range []int{5, 6, 7, 9} {
		n := plainNode()
		n.As = as
		l = append(l, n)
	}
	for _, own := range badOwns() {
		n := impl.Node{As: 77, Own: own, Bw: 10, Rib: impl.Rib{L: ownEntries(own, 10)}}
		sorted, plain := n, plainNode()
		sorted.Rib = tableOf(n.Rib.L...)
		plain.Own = own
		l = append(l, n, sorted, plain)
	}
	for _, bw := range []int{-1, -10, 1001, 1002, 1 << 32, math.MaxInt, math.MinInt} {
		n, other := nodeOf(77, manyPrefixes(1), bw, nil, nil), plainNode()
		other.Bw = bw
		l = append(l, n, other, impl.Node{As: 77, Bw: bw})
	}
	for _, bw := range []int{0, 9, 11, 1000} {
		n := plainNode()
		n.Bw = bw
		l = append(l, n)
	}
	return l
}

// badOwnEntries are nodes whose own entries do not correspond to Own, or are not as they should be.
func badOwnEntries() []impl.Node {
	var l []impl.Node
	for i := range 2 {
		less, fewer := plainNode(), plainNode()
		p := less.Own[i]
		less.Rib = without(less.Rib, func(e impl.Entry) bool { return e.Peer == -1 && e.Prefix == p })
		fewer.Own = slices.Delete(slices.Clone(fewer.Own), i, i+1)
		l = append(l, less, fewer)
		for _, a := range []impl.Attr{
			{Pref: 99, Bw: 10}, {Pref: 101, Bw: 10}, {Bw: 10}, {Pref: 1000, Bw: 10}, {Pref: 100}, {Pref: 100, Bw: 9}, {Pref: 100, Bw: 11}, {Pref: 100, Bw: 1000},
			{Path: []int{5}, Pref: 100, Bw: 10}, {Path: []int{77}, Pref: 100, Bw: 10}, {Pref: 100, Comm: []int{1}, Bw: 10}, {Pref: 100, Comm: []int{1000}, Bw: 10},
		} {
			n := plainNode()
			n.Rib = tableOf(append(n.Rib.L, entryOf(p, -1, a))...)
			l = append(l, n)
		}
	}
	for _, p := range []impl.Prefix{{}, {Addr: 256, Len: 9}, {Addr: 512, Len: 9}, {Addr: 65535, Len: 16}} {
		n, instead := plainNode(), plainNode()
		n.Rib = tableOf(append(n.Rib.L, entryOf(p, -1, impl.Attr{Pref: 100, Bw: 10}))...)
		instead.Rib = tableOf(append(without(instead.Rib, func(e impl.Entry) bool { return e.Peer == -1 && e.Prefix.Addr == 256 }).L, entryOf(p, -1, impl.Attr{Pref: 100, Bw: 10}))...)
		none := nodeOf(77, nil, 10, ownEntries([]impl.Prefix{p}, 10), nil)
		l = append(l, n, instead, none)
	}
	return l
}

// badNodes are valid but for one thing.
func badNodes() []impl.Node {
	l := slices.Concat([]impl.Node{{}}, badOwnNodes(), badOwnEntries())
	for _, table := range badTables() {
		n, other := plainNode(), plainNode()
		n.Sent = table
		other.Rib.L = append(ownEntries(other.Own, 10)[:1], table.L...)
		l = append(l, n, impl.Node{As: 77, Rib: table}, other)
	}
	for at, e := range plainNode().Rib.L {
		for _, path := range [][]int{nil, {77}, {77, 5}, {5, 77}, {5, 77, 6}, {1, 2, 3, 4, 5, 6, 7, 77}} {
			n := plainNode()
			n.Rib.L[at] = entryOf(e.Prefix, e.Peer, impl.Attr{Path: path, Pref: 100, Bw: 3})
			l = append(l, n)
		}
	}
	for at, e := range plainNode().Sent.L {
		for _, wrong := range []impl.Entry{entryOf(e.Prefix, -1, e.Attr), entryOf(e.Prefix, e.Peer, impl.Attr{}), entryOf(e.Prefix, e.Peer, impl.Attr{Path: []int{}, Pref: 100, Comm: []int{1}})} {
			n := plainNode()
			n.Sent.L[at] = wrong
			n.Sent = tableOf(n.Sent.L...)
			l = append(l, n)
		}
	}
	return l
}

func badIfaces() []int {
	return append(badPeers(), -1)
}

func TestNodeOk(t *testing.T) {
	checkValidity(t, impl.NodeOk, append(goodNodes(), plainNode()), badNodes())
}

func TestNodeOkEveryNumber(t *testing.T) {
	p := []impl.Prefix{{Addr: 256, Len: 8}}
	for n := -3; n < 1100; n++ {
		if impl.NodeOk(nodeOf(5, p, n, nil, nil)) != (n >= 0 && n <= 1000) || impl.NodeOk(impl.Node{As: 5, Bw: n}) != (n >= 0 && n <= 1000) {
			t.Error("bandwidth", n)
		}
		one := nodeOf(5, p, 7, nil, nil)
		one.Rib.L[0].Attr.Bw = n
		if impl.NodeOk(one) != (n == 7) {
			t.Error("bandwidth of an entry", n)
		}
		one = nodeOf(5, p, 7, nil, nil)
		one.Rib.L[0].Attr.Pref = n
		if impl.NodeOk(one) != (n == 100) {
			t.Error("preference of an entry", n)
		}
	}
	for n := -3; n < 66000; n++ {
		if impl.NodeOk(impl.Node{As: n}) != (n >= 1 && n <= 65535) {
			t.Error("as", n)
		}
	}
	for peer := -3; peer < 12; peer++ {
		e := entryOf(impl.Prefix{Addr: 256, Len: 9}, peer, impl.Attr{Path: []int{6}})
		if ok := peer >= 0 && peer <= 7; impl.NodeOk(nodeOf(5, p, 7, []impl.Entry{e}, nil)) != ok || impl.NodeOk(nodeOf(5, p, 7, nil, []impl.Entry{e})) != ok {
			t.Error("peer", peer)
		}
	}
}

// What was sent may contain the switch's own AS number or not, have any preference, and be of any prefix.
func TestNodeOkSent(t *testing.T) {
	p := impl.Prefix{Addr: 256, Len: 8}
	for _, a := range goodAttrs() {
		for _, as := range []int{1, 2, 5, 65535} {
			sent := nodeOf(as, []impl.Prefix{p}, 7, nil, []impl.Entry{entryOf(p, 3, a)})
			known := nodeOf(as, []impl.Prefix{p}, 7, []impl.Entry{entryOf(p, 3, a)}, nil)
			if impl.NodeOk(sent) != (len(a.Path) > 0) || impl.NodeOk(known) != (len(a.Path) > 0 && !slices.Contains(a.Path, as)) {
				t.Fatal(as, a)
			}
		}
	}
}

func TestNodeNew(t *testing.T) {
	for _, as := range slices.Concat(goodNumbers(), badNumbers()) {
		for i, own := range slices.Concat(ownLists(), badOwns()) {
			for _, bw := range []int{0, 1, 500, 999, 1000, -1, 1001, 1 << 32, math.MaxInt, math.MinInt} {
				fits := as >= 1 && as <= 65535 && i < len(ownLists()) && bw >= 0 && bw <= 1000
				want := impl.Node{}
				if fits {
					want = nodeOf(as, own, bw, nil, nil)
				}
				if got, ok := impl.NodeNew(as, own, bw); ok != fits || !sameNode(got, want) || impl.NodeOk(got) != ok {
					t.Fatal(as, own, bw, got, ok)
				}
			}
		}
	}
	own := make([]impl.Prefix, 100000)
	if got, ok := impl.NodeNew(5, own, 7); ok || !isZeroNode(got) {
		t.Error("very many prefixes")
	}
	n, ok := impl.NodeNew(5, []impl.Prefix{{Addr: 256, Len: 8}, {Addr: 256, Len: 9}}, 10)
	if text := show(n); !ok || text != "{5 [{256 8} {256 9}] 10 false {[{{256 8} -1 {[] 100 [] 10}} {{256 9} -1 {[] 100 [] 10}}]} {[]}}" {
		t.Error(text)
	}
}

// shutComm is the reference for the mark of a switch that is about to go.
func shutComm(comm []int) []int {
	if slices.Contains(comm, 1000) || len(comm) == 4 {
		return comm
	}
	return slices.Sorted(slices.Values(append(slices.Clone(comm), 1000)))
}

// wantsOf is the reference for Wants with valid arguments.
func wantsOf(n impl.Node, iface int) []impl.Entry {
	var l []impl.Entry
	for _, p := range prefixesOf(n.Rib) {
		first := bestOf(n.Rib, p)[0]
		a, ok := exportOf(n.As, first.Attr)
		if !ok || first.Peer == iface {
			continue
		}
		if n.Drain {
			a.Comm = shutComm(a.Comm)
		}
		l = append(l, entryOf(p, iface, a))
	}
	return l
}

func TestWants(t *testing.T) {
	for _, n := range goodNodes() {
		for _, drain := range []bool{false, true} {
			n.Drain = drain
			for iface := range 8 {
				if got := impl.Wants(n, iface); !sameEntries(got, wantsOf(n, iface)) || !impl.RibOk(impl.Rib{L: got}) {
					t.Fatal(n, iface, got)
				}
			}
		}
	}
}

func TestWantsExamples(t *testing.T) {
	p := impl.Prefix{Addr: 256, Len: 8}
	entry := func(peer, pref int, path ...int) impl.Entry {
		return entryOf(p, peer, impl.Attr{Path: path, Pref: pref, Bw: peer + 1})
	}
	long := []int{1, 2, 3, 4, 5, 6, 7, 8}
	for name, x := range map[string]struct {
		own   []impl.Prefix
		known []impl.Entry
		want  map[int]string // by interface; any other one by -1
	}{
		"nothing":                    {nil, nil, map[int]string{-1: "[]"}},
		"own":                        {[]impl.Prefix{p}, nil, map[int]string{-1: "[77] 0 [] 10"}},
		"own and a peer's":           {[]impl.Prefix{p}, []impl.Entry{entry(2, 100, 5)}, map[int]string{-1: "[77] 0 [] 10"}},
		"a peer's before the own":    {[]impl.Prefix{p}, []impl.Entry{entry(2, 101, 5)}, map[int]string{-1: "[77 5] 0 [] 3", 2: "[]"}},
		"a peer's":                   {nil, []impl.Entry{entry(2, 100, 5)}, map[int]string{-1: "[77 5] 0 [] 3", 2: "[]"}},
		"peers of the same rank":     {nil, []impl.Entry{entry(2, 100, 5), entry(3, 100, 6), entry(7, 100, 4)}, map[int]string{-1: "[77 5] 0 [] 3", 2: "[]"}},
		"the last peer":              {nil, []impl.Entry{entry(2, 100, 5, 5), entry(3, 100, 6, 6), entry(7, 100, 4)}, map[int]string{-1: "[77 4] 0 [] 8", 7: "[]"}},
		"the first interface":        {nil, []impl.Entry{entry(0, 100, 5), entry(3, 100, 6)}, map[int]string{-1: "[77 5] 0 [] 1", 0: "[]"}},
		"a path with room":           {nil, []impl.Entry{entry(4, 100, long[1:]...)}, map[int]string{-1: "[77 2 3 4 5 6 7 8] 0 [] 5", 4: "[]"}},
		"a path without room":        {nil, []impl.Entry{entry(4, 100, long...)}, map[int]string{-1: "[]"}},
		"no room, and a worse entry": {nil, []impl.Entry{entry(4, 100, long...), entry(5, 99, 3)}, map[int]string{-1: "[]"}},
		"no room, and a better one":  {nil, []impl.Entry{entry(4, 100, long...), entry(5, 100, 3)}, map[int]string{-1: "[77 3] 0 [] 6", 5: "[]"}},
	} {
		n := nodeOf(77, x.own, 10, x.known, nil)
		for iface := range 8 {
			want, special := x.want[iface]
			if !special {
				want = x.want[-1]
			}
			if want != "[]" {
				want = "[{{256 8} " + show(iface) + " {" + want + "}}]"
			}
			if got := show(impl.Wants(n, iface)); got != want {
				t.Error(name, iface, got)
			}
		}
	}
}

func TestWantsDrain(t *testing.T) {
	p := impl.Prefix{Addr: 256, Len: 8}
	for _, x := range []struct{ comm, on []int }{
		{nil, []int{1000}}, {[]int{1}, []int{1, 1000}}, {[]int{1001}, []int{1000, 1001}}, {[]int{1000}, []int{1000}}, {[]int{999, 1001}, []int{999, 1000, 1001}},
		{[]int{1, 2, 3}, []int{1, 2, 3, 1000}}, {[]int{1, 2, 1000}, []int{1, 2, 1000}}, {[]int{1001, 1002, 1003}, []int{1000, 1001, 1002, 1003}},
		{[]int{1, 2, 3, 4}, []int{1, 2, 3, 4}}, {[]int{1001, 1002, 1003, 1004}, []int{1001, 1002, 1003, 1004}},
		{[]int{1000, 1001, 1002, 1003}, []int{1000, 1001, 1002, 1003}}, {[]int{1, 2, 3, 1000}, []int{1, 2, 3, 1000}},
	} {
		n := nodeOf(77, nil, 10, []impl.Entry{entryOf(p, 2, impl.Attr{Path: []int{5}, Comm: x.comm, Bw: 4})}, nil)
		off := impl.Attr{Path: []int{77, 5}, Comm: x.comm, Bw: 4}
		on := impl.Attr{Path: []int{77, 5}, Comm: x.on, Bw: 4}
		if got := impl.Wants(n, 3); !sameEntries(got, []impl.Entry{entryOf(p, 3, off)}) {
			t.Error(x, got)
		}
		n.Drain = true
		if got := impl.Wants(n, 3); !sameEntries(got, []impl.Entry{entryOf(p, 3, on)}) {
			t.Error(x, got)
		}
		if got := impl.Wants(n, 2); len(got) > 0 {
			t.Error(x, got)
		}
	}
	n := nodeOf(77, []impl.Prefix{p}, 10, nil, nil)
	n.Drain = true
	if got := show(impl.Wants(n, 0)); got != "[{{256 8} 0 {[77] 0 [1000] 10}}]" {
		t.Error(got)
	}
}

// sayOf is the reference for NodeSay with valid arguments.
func sayOf(n impl.Node, iface int) (impl.Node, []impl.Msg) {
	wanted := wantsOf(n, iface)
	isGone := func(e impl.Entry) bool {
		return e.Peer == iface && !slices.ContainsFunc(wanted, func(w impl.Entry) bool { return w.Prefix == e.Prefix })
	}
	var gone []impl.Prefix
	held := map[impl.Prefix]impl.Attr{}
	for _, e := range n.Sent.L {
		if isGone(e) {
			gone = append(gone, e.Prefix)
		} else if e.Peer == iface {
			held[e.Prefix] = e.Attr
		}
	}
	var l []impl.Msg
	for at := 0; at < len(gone); at += 8 {
		l = append(l, update(gone[at:min(at+8, len(gone))], nil, impl.Attr{}))
	}
	sent := without(n.Sent, isGone)
	for _, w := range wanted {
		old, there := held[w.Prefix]
		if there && show(old) == show(w.Attr) || !there && len(sent.L) == 60 {
			continue
		}
		l = append(l, update(nil, []impl.Prefix{w.Prefix}, w.Attr))
		sent = tableOf(append(sent.L, w)...)
	}
	n.Sent = sent
	return n, l
}

func checkSay(t *testing.T, n impl.Node, iface int) (impl.Node, []impl.Msg) {
	t.Helper()
	want, msgs := sayOf(n, iface)
	got, l := impl.NodeSay(n, iface)
	if !sameNode(got, want) || !sameMsgs(l, msgs) || !impl.NodeOk(got) {
		t.Fatal(n, iface, "said", got, l, "and not", want, msgs)
	}
	if quiet := impl.Quiet(n, iface); quiet != (len(msgs) == 0) {
		t.Fatal(n, iface, "quiet", quiet)
	}
	for _, m := range l {
		if !impl.MsgOk(m) {
			t.Fatal(n, iface, m)
		}
	}
	return got, l
}

func TestNodeSay(t *testing.T) {
	for _, n := range goodNodes() {
		for iface := range 8 {
			checkSay(t, n, iface)
		}
	}
}

func TestNodeSayRandom(t *testing.T) {
	r := rand.New(rand.NewSource(41))
	full, many, none := 0, 0, 0
	for range 4000 {
		n, iface := randomNode(r), []int{3, r.Intn(8)}[r.Intn(2)]
		got, l := checkSay(t, n, iface)
		wanted := impl.Wants(n, iface)
		if len(l) == 0 {
			none++
		}
		if len(l) > 0 && len(l[0].Gone) == 8 {
			many++
		}
		if len(got.Sent.L) == 60 && len(of(got.Sent, iface)) < len(wanted) {
			full++
		}
	}
	if full < 100 || many < 100 || none < 100 {
		t.Error("few of some kind", full, many, none)
	}
}

// of are the entries that a table has of a peer.
func of(r impl.Rib, peer int) []impl.Entry {
	return without(r, func(e impl.Entry) bool { return e.Peer != peer }).L
}

func saidText(l []impl.Msg) []string {
	var texts []string
	for _, m := range l {
		texts = append(texts, string(impl.MsgText(m)))
	}
	return texts
}

func checkSaid(t *testing.T, why string, n impl.Node, iface int, want ...string) impl.Node {
	t.Helper()
	got, l := checkSay(t, n, iface)
	if texts := saidText(l); !slices.Equal(texts, want) {
		t.Error(why, texts)
	}
	return got
}

func TestNodeSayExamples(t *testing.T) {
	p, q, s := impl.Prefix{Addr: 256, Len: 8}, impl.Prefix{Addr: 256, Len: 9}, impl.Prefix{Addr: 512, Len: 8}
	n := nodeOf(77, []impl.Prefix{p}, 10, []impl.Entry{entryOf(q, 2, impl.Attr{Path: []int{5}, Pref: 100})}, nil)
	n = checkSaid(t, "first", n, 1, "update +1.0/8 pref 0 bw 10 path 77", "update +1.0/9 pref 0 bw 0 path 77 5")
	n = checkSaid(t, "no change", n, 1)
	n = checkSaid(t, "the interface itself", n, 2, "update +1.0/8 pref 0 bw 10 path 77")
	n.Rib = tableOf(append(n.Rib.L, entryOf(q, 0, impl.Attr{Path: []int{6}, Pref: 100}), entryOf(s, 0, impl.Attr{Path: []int{6, 7}, Pref: 100}))...)
	n = checkSaid(t, "another path, and one more", n, 1, "update +1.0/9 pref 0 bw 0 path 77 6", "update +2.0/8 pref 0 bw 0 path 77 6 7")
	n = checkSaid(t, "now there is one", n, 2, "update +1.0/9 pref 0 bw 0 path 77 6", "update +2.0/8 pref 0 bw 0 path 77 6 7")
	n.Drain = true
	n = checkSaid(t, "drain", n, 2, "update +1.0/8 pref 0 bw 10 path 77 marks 1000", "update +1.0/9 pref 0 bw 0 path 77 6 marks 1000", "update +2.0/8 pref 0 bw 0 path 77 6 7 marks 1000")
	n.Rib = tableOf(n.Rib.L[0], n.Rib.L[2])
	n = checkSaid(t, "gone, and again the interface itself", n, 2, "update -1.0/9 -2.0/8")
	n = checkSaid(t, "gone, and other attributes", n, 1, "update -2.0/8", "update +1.0/8 pref 0 bw 10 path 77 marks 1000", "update +1.0/9 pref 0 bw 0 path 77 5 marks 1000")
	if text := show(n.Sent); text != "{[{{256 8} 1 {[77] 0 [1000] 10}} {{256 8} 2 {[77] 0 [1000] 10}} {{256 9} 1 {[77 5] 0 [1000] 0}}]}" {
		t.Error(text)
	}
}

// Gone prefixes alone: each message but the last one has MaxList of them, and they are in order.
func TestNodeSayGone(t *testing.T) {
	for count := range 61 {
		others := manyEntries(60-count, 5, 0)
		n := nodeOf(77, nil, 10, nil, append(manyEntries(count, 4, 0), others...))
		got, l := checkSay(t, n, 4)
		if len(l) != (count+7)/8 || !sameRib(got.Sent, tableOf(others...)) {
			t.Fatal(count, l)
		}
		var gone []impl.Prefix
		for i, m := range l {
			if i < len(l)-1 && len(m.Gone) != impl.MaxList || len(m.Gone) == 0 || len(m.Came) > 0 {
				t.Fatal(count, l)
			}
			gone = append(gone, m.Gone...)
		}
		if !slices.Equal(gone, manyPrefixes(count)) {
			t.Fatal(count, gone)
		}
		n.Own, n.Rib = []impl.Prefix{{Addr: 65535, Len: 16}}, impl.Rib{L: ownEntries([]impl.Prefix{{Addr: 65535, Len: 16}}, 10)}
		if _, l = checkSay(t, n, 4); count > 0 && len(l) != (count+7)/8+1 {
			t.Fatal(count, l)
		}
	}
}

// An entry that was sent with attributes that differ in one thing only is sent again, even if their ranks are equal.
func TestNodeSayDiffers(t *testing.T) {
	p := impl.Prefix{Addr: 256, Len: 8}
	right := impl.Attr{Path: []int{77, 5}, Comm: []int{7}, Bw: 4}
	known := []impl.Entry{entryOf(p, 2, impl.Attr{Path: []int{5}, Pref: 100, Comm: []int{7}, Bw: 4})}
	for _, a := range []impl.Attr{
		{Path: []int{77, 6}, Comm: []int{7}, Bw: 4}, {Path: []int{5, 77}, Comm: []int{7}, Bw: 4}, {Path: []int{77}, Comm: []int{7}, Bw: 4}, {Path: []int{77, 5, 5}, Comm: []int{7}, Bw: 4},
		{Path: []int{77, 5}, Pref: 1, Comm: []int{7}, Bw: 4}, {Path: []int{77, 5}, Pref: 100, Comm: []int{7}, Bw: 4}, {Path: []int{77, 5}, Comm: []int{8}, Bw: 4}, {Path: []int{77, 5}, Bw: 4},
		{Path: []int{77, 5}, Comm: []int{7, 1000}, Bw: 4}, {Path: []int{77, 5}, Comm: []int{7}}, {Path: []int{77, 5}, Comm: []int{7}, Bw: 5},
	} {
		n := nodeOf(77, nil, 10, known, []impl.Entry{entryOf(p, 3, a), entryOf(p, 4, right), entryOf(p, 5, a)})
		n = checkSaid(t, show(a), n, 3, "update +1.0/8 pref 0 bw 4 path 77 5 marks 7")
		n = checkSaid(t, "again", n, 3)
		n = checkSaid(t, "right", n, 4)
		if !sameEntries(n.Sent.L, []impl.Entry{entryOf(p, 3, right), entryOf(p, 4, right), entryOf(p, 5, a)}) {
			t.Error(a, n.Sent)
		}
		// The same attributes of another prefix, or of another interface, do not count.
		n = nodeOf(77, nil, 10, known, []impl.Entry{entryOf(impl.Prefix{Addr: 256, Len: 9}, 3, right), entryOf(p, 4, right)})
		checkSaid(t, "elsewhere", n, 3, "update -1.0/9", "update +1.0/8 pref 0 bw 4 path 77 5 marks 7")
	}
}

func TestNodeSayFull(t *testing.T) {
	p, q := impl.Prefix{Addr: 65535, Len: 16}, impl.Prefix{Addr: 65534, Len: 16}
	own := nodeOf(77, []impl.Prefix{q, p}, 10, nil, nil)
	for count := range 61 {
		n := own
		n.Sent = tableOf(manyEntries(count, 5, 0)...)
		got, l := checkSay(t, n, 4)
		if added := min(2, 60-count); len(l) != added || len(of(got.Sent, 4)) != added {
			t.Fatal("entries of other interfaces", count, l)
		}
		if again, l := checkSay(t, got, 4); len(l) > 0 || !sameNode(again, got) || !impl.Quiet(got, 4) {
			t.Fatal("twice", count, l)
		}
		n.Sent = tableOf(append(manyEntries(count, 5, 0), manyEntries(60-count, 4, 0)...)...)
		got, l = checkSay(t, n, 4)
		if added := min(2, 60-count); len(l) != (60-count+7)/8+added || len(of(got.Sent, 4)) != added {
			t.Fatal("full before what is gone is removed", count, l)
		}
	}
	// An entry that was sent before can be replaced also where there is no room.
	n := own
	n.Sent = tableOf(append(manyEntries(59, 5, 0), entryOf(p, 4, impl.Attr{Path: []int{77, 5}}))...)
	n = checkSaid(t, "replaced", n, 4, "update +255.255/16 pref 0 bw 10 path 77")
	n.Sent = without(n.Sent, func(e impl.Entry) bool { return e.Prefix == manyPrefixes(1)[0] })
	n = checkSaid(t, "room again", n, 4, "update +255.254/16 pref 0 bw 10 path 77")
	if checkSaid(t, "all is sent", n, 4); len(n.Sent.L) != 60 {
		t.Error(n.Sent)
	}
}

// A switch that is not valid, or an interface that it does not have: nothing is said, and nothing is quiet.
func TestSayInvalid(t *testing.T) {
	check := func(n impl.Node, iface int) {
		t.Helper()
		if l := impl.Wants(n, iface); len(l) > 0 {
			t.Fatal("Wants", n, iface, l)
		}
		if got, l := impl.NodeSay(n, iface); len(l) > 0 || !isZeroNode(got) {
			t.Fatal("NodeSay", n, iface, got, l)
		}
		if impl.Quiet(n, iface) {
			t.Fatal("Quiet", n, iface)
		}
		if got := impl.NodeLost(n, iface); !isZeroNode(got) {
			t.Fatal("NodeLost", n, iface, got)
		}
	}
	for _, n := range badNodes() {
		for iface := range 8 {
			check(n, iface)
		}
		check(n, -1)
		check(n, 8)
	}
	for _, n := range slices.Concat(goodNodes(), []impl.Node{plainNode(), {As: 1}}) {
		for _, iface := range badIfaces() {
			check(n, iface)
		}
	}
}

// hearOfNode is the reference for NodeHear with valid arguments.
func hearOfNode(n impl.Node, iface int, m impl.Msg) (impl.Node, int) {
	table, code := takeOf(n.Rib, n.As, iface, m)
	n.Rib = table
	return n, code
}

func checkHear(t *testing.T, n impl.Node, iface int, m impl.Msg) (impl.Node, int) {
	t.Helper()
	want, code := hearOfNode(n, iface, m)
	got, e := impl.NodeHear(n, iface, m)
	if e != code || !sameNode(got, want) || !impl.NodeOk(got) {
		t.Fatal(n, iface, m, "heard", got, e, "and not", want, code)
	}
	return got, e
}

func TestNodeHear(t *testing.T) {
	for _, n := range goodNodes() {
		for i, m := range goodUpdates() {
			checkHear(t, n, i%8, m)
		}
		for iface := range 8 {
			checkHear(t, n, iface, update(manyPrefixes(3), manyPrefixes(8), impl.Attr{Path: []int{5, n.As}}))
			checkHear(t, n, iface, update(n.Own, n.Own, impl.Attr{Path: []int{3}, Bw: 5}))
		}
	}
}

func TestNodeHearRandom(t *testing.T) {
	r := rand.New(rand.NewSource(42))
	codes := map[int]int{}
	for range 20000 {
		from := ribPrefixes()
		if r.Intn(2) == 0 {
			from = manyPrefixes(30)
		}
		n := randomNode(r)
		if r.Intn(4) == 0 {
			n = nodeOf(77, manyPrefixes(1), 10, manyEntries(60-r.Intn(8), r.Intn(8), 77)[1:], nil)
		}
		_, code := checkHear(t, n, r.Intn(8), randomUpdate(r, from))
		codes[code]++
	}
	if codes[impl.ErNone] < 1000 || codes[impl.ErCease] < 1000 {
		t.Error(codes)
	}
}

func TestNodeHearExamples(t *testing.T) {
	p, q := impl.Prefix{Addr: 256, Len: 8}, impl.Prefix{Addr: 256, Len: 9}
	old, sent := impl.Attr{Path: []int{4}, Pref: 100}, impl.Attr{Path: []int{7, 8}, Pref: 5, Bw: 9}
	taken := impl.Attr{Path: []int{7, 8}, Pref: 100, Bw: 9}
	known := []impl.Entry{entryOf(p, 3, old), entryOf(q, 2, old), entryOf(q, 3, old)}
	for name, x := range map[string]struct {
		as    int
		m     impl.Msg
		known []impl.Entry
	}{
		"nothing":                   {77, update(nil, nil, sent), known},
		"came":                      {77, update(nil, []impl.Prefix{q}, sent), []impl.Entry{known[0], entryOf(q, 2, taken), known[2]}},
		"own as in front":           {7, update(nil, []impl.Prefix{p, q}, sent), []impl.Entry{known[0], known[2]}},
		"own as at the end":         {8, update(nil, []impl.Prefix{p, q}, sent), []impl.Entry{known[0], known[2]}},
		"own prefix came":           {77, update(nil, []impl.Prefix{p}, sent), append([]impl.Entry{entryOf(p, 2, taken)}, known...)},
		"own prefix gone":           {77, update([]impl.Prefix{p}, nil, sent), known},
		"own prefix gone and came":  {77, update([]impl.Prefix{p}, []impl.Prefix{p}, sent), append([]impl.Entry{entryOf(p, 2, taken)}, known...)},
		"own prefix came with as":   {8, update(nil, []impl.Prefix{p}, sent), known},
		"gone":                      {77, update([]impl.Prefix{p, q}, nil, sent), []impl.Entry{known[0], known[2]}},
		"gone that was never there": {77, update([]impl.Prefix{{Addr: 512, Len: 8}}, nil, sent), known},
	} {
		n := nodeOf(x.as, []impl.Prefix{p}, 10, known, []impl.Entry{entryOf(p, 2, old), entryOf(p, 6, old)})
		n.Drain = len(name)%2 == 0
		want := nodeOf(x.as, []impl.Prefix{p}, 10, x.known, n.Sent.L)
		want.Drain = n.Drain
		if got, code := impl.NodeHear(n, 2, x.m); code != impl.ErNone || !sameNode(got, want) {
			t.Error(name, got, code)
		}
	}
	n := nodeOf(77, []impl.Prefix{{Addr: 65535, Len: 16}}, 10, manyEntries(59, 2, 77), []impl.Entry{entryOf(p, 2, old)})
	if got, code := impl.NodeHear(n, 3, update(manyPrefixes(2), manyPrefixes(1), sent)); code != impl.ErCease || !sameNode(got, n) {
		t.Error("one more", got, code)
	}
	if got, code := impl.NodeHear(n, 2, update(manyPrefixes(1), []impl.Prefix{{Addr: 65535, Len: 16}}, sent)); code != impl.ErNone || len(got.Rib.L) != 60 {
		t.Error("one gone, one more", got, code)
	}
}

func TestNodeHearInvalid(t *testing.T) {
	check := func(why string, n impl.Node, iface int, m impl.Msg) {
		t.Helper()
		if got, code := impl.NodeHear(n, iface, m); code != impl.ErState || !isZeroNode(got) {
			t.Fatal(why, n, iface, m, got, code)
		}
	}
	good := update(manyPrefixes(2), manyPrefixes(8), impl.Attr{Path: []int{3}})
	full := nodeOf(77, nil, 10, manyEntries(60, 2, 77), nil)
	for _, n := range badNodes() {
		check("switch", n, 3, good)
		check("switch", n, 0, impl.Msg{Kind: impl.MsUpdate})
		check("switch", n, 8, impl.Msg{Kind: impl.MsKeep})
	}
	for _, n := range []impl.Node{plainNode(), {As: 1}, full} {
		for _, iface := range badIfaces() {
			check("interface", n, iface, good)
			check("interface", n, iface, impl.Msg{Kind: impl.MsUpdate})
		}
		for _, m := range badMsgs() {
			check("message", n, 3, m)
		}
		for _, m := range plainMsgs() {
			if m.Kind != impl.MsUpdate {
				check("kind", n, 3, m)
			}
		}
	}
}

func lostOf(n impl.Node, iface int) impl.Node {
	gone := func(e impl.Entry) bool { return e.Peer == iface }
	n.Rib, n.Sent = without(n.Rib, gone), without(n.Sent, gone)
	return n
}

func TestNodeLost(t *testing.T) {
	for _, n := range append(goodNodes(), plainNode()) {
		for iface := range 8 {
			got := impl.NodeLost(n, iface)
			if !sameNode(got, lostOf(n, iface)) || !impl.NodeOk(got) {
				t.Fatal(n, iface, got)
			}
			if again := impl.NodeLost(got, iface); !sameNode(again, got) {
				t.Fatal(n, iface, again)
			}
		}
	}
	n := plainNode()
	for iface, want := range map[int][2]int{0: {5, 2}, 1: {6, 3}, 2: {5, 3}, 3: {5, 3}, 4: {6, 3}, 5: {6, 2}, 6: {6, 3}, 7: {5, 2}} {
		if got := impl.NodeLost(n, iface); len(got.Rib.L) != want[0] || len(got.Sent.L) != want[1] {
			t.Error(iface, got)
		}
	}
}

func TestNodeDrain(t *testing.T) {
	for _, n := range append(goodNodes(), plainNode()) {
		for _, was := range []bool{false, true} {
			for _, on := range []bool{false, true} {
				n.Drain = was
				want := n
				want.Drain = on
				if got := impl.NodeDrain(n, on); !sameNode(got, want) || !impl.NodeOk(got) {
					t.Fatal(n, on, got)
				}
			}
		}
	}
	for _, n := range badNodes() {
		for _, on := range []bool{false, true} {
			n.Drain = !on
			if got := impl.NodeDrain(n, on); !isZeroNode(got) {
				t.Fatal(n, on, got)
			}
		}
	}
}

func TestQuiet(t *testing.T) {
	for _, n := range goodNodes() {
		for iface := range 8 {
			_, l := sayOf(n, iface)
			if impl.Quiet(n, iface) != (len(l) == 0) {
				t.Fatal("before", n, iface)
			}
			if n, _ := impl.NodeSay(n, iface); !impl.Quiet(n, iface) {
				t.Fatal("after", n, iface)
			}
		}
	}
	n, _ := impl.NodeNew(5, manyPrefixes(1), 10)
	silent, _ := impl.NodeNew(5, nil, 10)
	if impl.Quiet(n, 0) || !impl.Quiet(silent, 0) {
		t.Error("a new switch")
	}
	n, _ = impl.NodeSay(n, 0)
	if !impl.Quiet(n, 0) || impl.Quiet(n, 1) || impl.Quiet(impl.NodeDrain(n, true), 0) || impl.Quiet(impl.NodeLost(n, 0), 0) || !impl.Quiet(impl.NodeLost(n, 1), 0) {
		t.Error("a switch that has said all")
	}
}

// checkOwn requires that a switch is valid and has what is its own; the entries are looked up, so this does not rely on NodeOk.
func checkOwn(t *testing.T, n impl.Node, as int, own []impl.Prefix, bw int) {
	t.Helper()
	if !impl.NodeOk(n) || n.As != as || !slices.Equal(n.Own, own) || n.Bw != bw {
		t.Fatal(n)
	}
	for _, p := range own {
		if a, ok := impl.RibGet(n.Rib, p, -1); !ok || !sameAttr(a, impl.Attr{Pref: 100, Bw: bw}) {
			t.Fatal(n, p)
		}
	}
	if len(of(n.Rib, -1)) != len(own) || len(of(n.Sent, -1)) > 0 {
		t.Fatal(n)
	}
}

// Promise 10: what a switch receives, sends and forgets leaves it valid, for long, and its own prefixes remain.
func TestPromise10RemainsValid(t *testing.T) {
	r := rand.New(rand.NewSource(43))
	for _, from := range [][]impl.Prefix{ribPrefixes(), manyPrefixes(12), manyPrefixes(60)} {
		for _, own := range [][]impl.Prefix{nil, from[3:4], from[5:7], {from[0], from[11]}} {
			bw := r.Intn(1001)
			n, ok := impl.NodeNew(5, own, bw)
			if !ok {
				t.Fatal(own, bw)
			}
			for range 1200 {
				was := n
				switch r.Intn(12) {
				case 0:
					iface := r.Intn(8)
					n = impl.NodeLost(n, iface)
					if !sameNode(n, lostOf(was, iface)) {
						t.Fatal(was, iface, n)
					}
				case 1:
					n = impl.NodeDrain(n, r.Intn(3) == 0)
				case 2, 3, 4, 5:
					n, _ = checkSay(t, n, r.Intn(8))
				default:
					n, _ = checkHear(t, n, r.Intn(8), randomUpdate(r, from))
				}
				checkOwn(t, n, 5, own, bw)
			}
		}
	}
}

// checkAllSent requires that what was sent on an interface is what is wanted, and that there is nothing more to send.
func checkAllSent(t *testing.T, n impl.Node, iface int) {
	t.Helper()
	if !sameEntries(of(n.Sent, iface), impl.Wants(n, iface)) {
		t.Fatal("not what is wanted", n, iface)
	}
	if again, l := impl.NodeSay(n, iface); len(l) > 0 || !sameNode(again, n) || !impl.Quiet(n, iface) {
		t.Fatal("more to send", n, iface, l)
	}
}

// Promise 10: after sending on an interface there is nothing to send there, and what was sent is what is wanted if there is room for it.
func TestPromise10NothingToSend(t *testing.T) {
	r := rand.New(rand.NewSource(44))
	roomy, tight := 0, 0
	for range 6000 {
		n, iface := randomNode(r), r.Intn(8)
		if r.Intn(2) == 0 {
			n.Sent = tableOf(of(n.Sent, iface)...)
		}
		others := without(n.Sent, func(e impl.Entry) bool { return e.Peer == iface })
		wanted := impl.Wants(n, iface)
		got, _ := impl.NodeSay(n, iface)
		checkOthers(t, n.Sent, got.Sent, func(e impl.Entry) bool { return e.Peer == iface })
		if !sameRib(got.Rib, n.Rib) || !impl.Quiet(got, iface) {
			t.Fatal(n, iface, got)
		}
		if len(others.L)+len(wanted) <= 60 {
			checkAllSent(t, got, iface)
			roomy++
			continue
		}
		tight++
		if len(got.Sent.L) != 60 {
			t.Fatal("there is room", n, iface, got)
		}
		for _, e := range of(got.Sent, iface) {
			if !slices.ContainsFunc(wanted, func(w impl.Entry) bool { return w.Prefix == e.Prefix && sameAttr(w.Attr, e.Attr) }) {
				t.Fatal("not wanted", n, iface, e)
			}
		}
	}
	if roomy < 1000 || tight < 100 {
		t.Error("few of one kind", roomy, tight)
	}
}

// The guarantee of chapter 8: after everything was sent there is nothing to send, on all interfaces and whatever was sent before.
func TestPromise10EverythingSent(t *testing.T) {
	r := rand.New(rand.NewSource(45))
	roomy := 0
	for range 1000 {
		own := somePlaces(r, ribPrefixes(), 2)
		n := nodeOf(77, own, 10, randomEntries(r, ribPrefixes()[:7], 77, 40), nil)
		n.Drain = r.Intn(2) == 0
		n.Sent = randomSent(r, n, ribPrefixes()[:9])
		ifaces := r.Perm(8)[:1+r.Intn(6)]
		for iface := range 8 {
			if !slices.Contains(ifaces, iface) {
				n = impl.NodeLost(n, iface)
			}
		}
		for _, iface := range ifaces {
			n, _ = impl.NodeSay(n, iface)
		}
		if len(n.Sent.L) == 60 {
			continue
		}
		roomy++
		for _, iface := range ifaces {
			checkAllSent(t, n, iface)
		}
	}
	if roomy < 900 {
		t.Error("few had room", roomy)
	}
}

// Where there is no room, an interface is quiet until another one makes room.
func TestQuietUntilRoom(t *testing.T) {
	n := nodeOf(77, []impl.Prefix{{Addr: 65535, Len: 16}}, 10, nil, append(manyEntries(30, 1, 0), manyEntries(30, 2, 0)...))
	n = checkSaid(t, "no room", n, 3)
	if !impl.Quiet(n, 3) || impl.Quiet(n, 1) {
		t.Error("before")
	}
	n, _ = impl.NodeSay(n, 1)
	if impl.Quiet(n, 3) || !impl.Quiet(n, 1) {
		t.Error("after")
	}
	checkSaid(t, "room", n, 3, "update +255.255/16 pref 0 bw 10 path 77")
}

// importsOf are the entries that a switch with this AS number has of what was sent to it.
func importsOf(sent []impl.Entry, as, peer int) []impl.Entry {
	var l []impl.Entry
	for _, e := range sent {
		if a, ok := importOf(as, e.Attr); ok {
			l = append(l, entryOf(e.Prefix, peer, a))
		}
	}
	return l
}

// link is a connection of two switches, and the interface of each.
type link struct {
	a, b   impl.Node
	ai, bi int
}

// change lets the first switch hear or forget something; if the connection is lost, both forget.
func (x *link) change(r *rand.Rand, from []impl.Prefix) {
	iface := r.Intn(8)
	switch r.Intn(8) {
	case 0:
		x.a = impl.NodeDrain(x.a, !x.a.Drain)
	case 1:
		x.a = impl.NodeLost(x.a, iface)
		if iface == x.ai {
			x.b = impl.NodeLost(x.b, x.bi)
		}
	case 2:
		if iface != x.bi {
			x.b = impl.NodeLost(x.b, iface)
		}
	default:
		x.a, _ = impl.NodeHear(x.a, iface, randomUpdate(r, from))
	}
}

// Promise 10: a switch that receives everything that another one sends has exactly that, and what it has of others remains.
func TestPromise10ReceivesExactlyThat(t *testing.T) {
	r := rand.New(rand.NewSource(46))
	for range 400 {
		from := [][]impl.Prefix{ribPrefixes(), manyPrefixes(14)}[r.Intn(2)]
		ases := []int{5, 6, 7, 77, 88, 65535}
		x := link{ai: r.Intn(8), bi: r.Intn(8)}
		x.a, _ = impl.NodeNew(ases[r.Intn(6)], somePlaces(r, from, 2), r.Intn(1001))
		as := ases[r.Intn(6)]
		known := slices.DeleteFunc(randomEntries(r, from, as, 30), func(e impl.Entry) bool { return e.Peer == x.bi })
		x.b = nodeOf(as, somePlaces(r, from, 2), 3, known, nil)
		for range 30 {
			x.change(r, from)
			a, l := impl.NodeSay(x.a, x.ai)
			x.a = a
			others := without(x.b.Rib, func(e impl.Entry) bool { return e.Peer == x.bi })
			for _, m := range l {
				b, code := impl.NodeHear(x.b, x.bi, m)
				if code != impl.ErNone || !impl.NodeOk(b) {
					t.Fatal(x, m, code)
				}
				x.b = b
			}
			checkAllSent(t, x.a, x.ai)
			if got := of(x.b.Rib, x.bi); !sameEntries(got, importsOf(of(x.a.Sent, x.ai), as, x.bi)) || !sameEntries(got, importsOf(wantsOf(x.a, x.ai), as, x.bi)) {
				t.Fatal("not exactly that", x, l)
			}
			if rest := without(x.b.Rib, func(e impl.Entry) bool { return e.Peer == x.bi }); !sameRib(rest, others) {
				t.Fatal("others", x, l)
			}
		}
	}
}

// The same in bytes: what is sent fits into messages, and is received through a stream.
func TestPromise10InBytes(t *testing.T) {
	r := rand.New(rand.NewSource(47))
	for range 1000 {
		n, iface := randomNode(r), r.Intn(8)
		var s impl.Stream
		_, l := impl.NodeSay(n, iface)
		for _, m := range l {
			b, ok := impl.MsgBytes(m)
			next, heard, code := impl.Feed(s, b)
			if !ok || code != impl.ErNone || !sameMsgs(heard, []impl.Msg{m}) {
				t.Fatal(n, iface, m, heard, code)
			}
			s = next
		}
	}
}

// What lies behind the length of a slice neither spoils a switch nor belongs to it.
func TestNodeBehindLength(t *testing.T) {
	p, q := impl.Prefix{Addr: 256, Len: 8}, impl.Prefix{Addr: 512, Len: 8}
	own := []impl.Prefix{p, p, {Addr: -1}}
	known := []impl.Entry{entryOf(p, -1, impl.Attr{Pref: 100, Bw: 10}), entryOf(q, 2, impl.Attr{Path: []int{5, 77, 0}[:1], Pref: 100, Comm: []int{3, 2}[:1]}), entryOf(q, -1, impl.Attr{}), {Peer: 99}}
	sent := []impl.Entry{entryOf(q, 3, impl.Attr{Path: []int{7, -1}[:1]}), entryOf(p, -1, impl.Attr{}), {Peer: 99}}
	n := impl.Node{As: 77, Own: own[:1], Bw: 10, Rib: impl.Rib{L: known[:2]}, Sent: impl.Rib{L: sent[:1]}}
	if made, ok := impl.NodeNew(77, own[:1], 10); !ok || show(made) != "{77 [{256 8}] 10 false {[{{256 8} -1 {[] 100 [] 10}}]} {[]}}" {
		t.Error(made, ok)
	}
	if !impl.NodeOk(n) || show(impl.Wants(n, 3)) != "[{{256 8} 3 {[77] 0 [] 10}} {{512 8} 3 {[77 5] 0 [3] 0}}]" {
		t.Error("read behind the length")
	}
	got := checkSaid(t, "said", n, 3, "update +1.0/8 pref 0 bw 10 path 77", "update +2.0/8 pref 0 bw 0 path 77 5 marks 3")
	if show(got.Sent.L) != "[{{256 8} 3 {[77] 0 [] 10}} {{512 8} 3 {[77 5] 0 [3] 0}}]" {
		t.Error(got)
	}
	m := impl.Msg{Kind: impl.MsUpdate, Gone: []impl.Prefix{p, p}[:1], Came: []impl.Prefix{q, p}[:1], Attr: impl.Attr{Path: []int{6, 0}[:1]}}
	if got, code := impl.NodeHear(n, 4, m); code != impl.ErNone || show(got.Rib.L) != "[{{256 8} -1 {[] 100 [] 10}} {{512 8} 2 {[5] 100 [3] 0}} {{512 8} 4 {[6] 100 [] 0}}]" {
		t.Error(got, code)
	}
	if got := impl.NodeLost(n, 2); show(got) != "{77 [{256 8}] 10 false {[{{256 8} -1 {[] 100 [] 10}}]} {[{{512 8} 3 {[7] 0 [] 0}}]}}" {
		t.Error(got)
	}
	if got := impl.NodeDrain(n, true); !got.Drain || !sameRib(got.Rib, n.Rib) || !sameRib(got.Sent, n.Sent) || !slices.Equal(got.Own, n.Own) {
		t.Error(got)
	}
}

// nodeCase is a set of arguments, all of them in arrays that have more behind them.
type nodeCase struct {
	n        impl.Node
	iface    int
	m        impl.Msg
	prefixes [][]impl.Prefix
	entries  [][]impl.Entry
	numbers  [][]int
}

func newNodeCase(n impl.Node, iface int, m impl.Msg) *nodeCase {
	c := &nodeCase{n: n, iface: iface, prefixes: make([][]impl.Prefix, 2), entries: make([][]impl.Entry, 2), numbers: make([][]int, 3)}
	c.prefixes[0] = slices.Concat([]impl.Prefix{{Addr: -1}}, n.Own, make([]impl.Prefix, 3))
	c.n.Own = c.prefixes[0][1 : 1+len(n.Own)]
	c.n.Rib, c.entries[0], c.numbers[0] = crowdedRib(n.Rib)
	c.n.Sent, c.entries[1], c.numbers[1] = crowdedRib(n.Sent)
	c.m, c.prefixes[1], c.numbers[2] = crowdedMsg(m)
	return c
}

func (c *nodeCase) shown() string {
	return show(c.prefixes) + show(c.entries) + show(c.numbers)
}

// nodeResult has what a function returned; slices only, because nothing else can share memory.
type nodeResult struct {
	n       impl.Node
	entries []impl.Entry
	msgs    []impl.Msg
}

func nodeCalls() map[string]func(*nodeCase) nodeResult {
	return map[string]func(*nodeCase) nodeResult{
		"NodeOk":    func(c *nodeCase) nodeResult { impl.NodeOk(c.n); return nodeResult{} },
		"NodeNew":   func(c *nodeCase) nodeResult { n, _ := impl.NodeNew(c.n.As, c.n.Own, c.n.Bw); return nodeResult{n: n} },
		"Wants":     func(c *nodeCase) nodeResult { return nodeResult{entries: impl.Wants(c.n, c.iface)} },
		"NodeSay":   func(c *nodeCase) nodeResult { n, l := impl.NodeSay(c.n, c.iface); return nodeResult{n: n, msgs: l} },
		"NodeHear":  func(c *nodeCase) nodeResult { n, _ := impl.NodeHear(c.n, c.iface, c.m); return nodeResult{n: n} },
		"NodeLost":  func(c *nodeCase) nodeResult { return nodeResult{n: impl.NodeLost(c.n, c.iface)} },
		"NodeDrain": func(c *nodeCase) nodeResult { return nodeResult{n: impl.NodeDrain(c.n, !c.n.Drain)} },
		"Quiet":     func(c *nodeCase) nodeResult { impl.Quiet(c.n, c.iface); return nodeResult{} },
	}
}

func nodeCases() []*nodeCase {
	var l []*nodeCase
	r := rand.New(rand.NewSource(48))
	updates, bad := slices.Concat(goodUpdates(), badMsgs()[:20]), badNodes()
	for _, n := range slices.Concat(goodNodes(), []impl.Node{plainNode()}, bad[:60]) {
		for range 3 {
			l = append(l, newNodeCase(n, r.Intn(8), updates[r.Intn(len(updates))]))
		}
		l = append(l, newNodeCase(n, 8, impl.Msg{Kind: impl.MsKeep}), newNodeCase(n, r.Intn(8), update(n.Own, manyPrefixes(8), sentAttrs()[3])))
		if impl.NodeOk(n) {
			said, _ := impl.NodeSay(n, 3)
			said.Rib = tableOf(ownEntries(said.Own, said.Bw)...)
			l = append(l, newNodeCase(said, 3, update(nil, manyPrefixes(1), impl.Attr{Path: []int{n.As}})))
		}
	}
	full := nodeOf(77, nil, 10, manyEntries(60, 2, 77), manyEntries(60, 5, 77))
	return append(l, newNodeCase(full, 3, update(nil, manyPrefixes(2), sentAttrs()[3])), newNodeCase(full, 5, update(nil, nil, impl.Attr{})))
}

func TestNodeArgumentsKept(t *testing.T) {
	checkKept(t, nodeCases(), nodeCalls())
}

func (x nodeResult) entrySlices() [][]impl.Entry {
	return [][]impl.Entry{x.n.Rib.L, x.n.Sent.L, x.entries}
}

func (x nodeResult) prefixSlices() [][]impl.Prefix {
	l := [][]impl.Prefix{x.n.Own}
	for _, m := range x.msgs {
		l = append(l, m.Gone, m.Came)
	}
	return l
}

func (x nodeResult) numberSlices() [][]int {
	var l [][]int
	for _, e := range slices.Concat(x.entrySlices()...) {
		l = append(l, e.Attr.Path, e.Attr.Comm)
	}
	for _, m := range x.msgs {
		l = append(l, m.Attr.Path, m.Attr.Comm)
	}
	return l
}

func TestNodeResultsAreNew(t *testing.T) {
	for name, call := range nodeCalls() {
		for i, c := range nodeCases() {
			first, second := call(c), call(c)
			if show(first) != show(second) {
				t.Fatal(name, "differs from call to call", i)
			}
			checkApart(t, name, slices.Concat(c.numbers, first.numberSlices(), second.numberSlices()), func(i int) int { return 1000000 + i })
			checkApart(t, name, slices.Concat(c.prefixes, first.prefixSlices(), second.prefixSlices()), func(i int) impl.Prefix { return impl.Prefix{Addr: i} })
			checkApartBy(t, name, slices.Concat(c.entries, first.entrySlices(), second.entrySlices()), func(i int) impl.Entry { return impl.Entry{Peer: i + 50} }, samePeer)
		}
	}
}

func TestNodeConstants(t *testing.T) {
	const own int8 = impl.MaxOwn
	if own != 2 {
		t.Error(own)
	}
}
