package tests

import (
	"math/rand"
	"slices"
	"testing"

	"loop.example/g00557/impl"
)

// What lies behind the length of a slice neither spoils a fabric nor belongs to it.
func TestFabricBehindLength(t *testing.T) {
	nodes := append(numbered(3), impl.Node{}, impl.Node{As: -1})
	message := update([]impl.Prefix{{Addr: 4096, Len: 8}, {Addr: -1}}[:1], []impl.Prefix{{Addr: 8192, Len: 8}, {Addr: -1}}[:1], impl.Attr{Path: []int{9, -1}[:1], Comm: []int{8, 7}[:1]})
	links := []impl.Link{linkOf(0, 0, 1, 0), linkOf(1, 1, 2, 0), linkOf(0, 0, 1, 0), linkOf(-1, 9, 9, -1)}
	links[0].Ab = []impl.Msg{message, {Kind: impl.MsKeep}, {}}[:1]
	links[1].Ba = []impl.Msg{{Kind: impl.MsKeep}, {}}[:0]
	f := netOf(2, nodes[:3], links[:2]...)
	whole := netOf(2, numbered(3), links[:2]...)
	whole.Links = slices.Clone(whole.Links)
	whole.Links[0].Ab = []impl.Msg{update([]impl.Prefix{{Addr: 4096, Len: 8}}, []impl.Prefix{{Addr: 8192, Len: 8}}, impl.Attr{Path: []int{9}, Comm: []int{8}})}
	if !impl.FabricOk(f) || impl.Settled(f) || impl.Synced(f) {
		t.Fatal("read behind the length")
	}
	pairs := [][]int{[]int{0, 1, 2}[:2], []int{1, 2, 0}[:2], {0}, nil}
	if got, ok := impl.FabricNew(nodes[:3], pairs[:2], 2); !ok || len(got.Nodes) != 3 || len(got.Links) != 2 {
		t.Error("new", got, ok)
	}
	got, _ := checkDeliver(t, f, 0, true)
	if text := show(got.Nodes[1].Rib.L[1:]); len(got.Links[0].Ab) != 0 || text != "[{{8192 8} 0 {[9] 100 [8] 0}}]" {
		t.Error("delivered", text, got.Links)
	}
	for node := range 3 {
		if got := checkTalk(t, f, node); !sameFabric(got, checkTalk(t, whole, node)) {
			t.Error("talked", got)
		}
		if got := impl.Hops(f, node, 768); got != 2-node {
			t.Error("hops", got)
		}
	}
	got, n := checkSettle(t, f)
	if want, m := impl.Settle(whole); n != m || !sameFabric(got, want) {
		t.Error("settled", got, n)
	}
	if path, ok := checkWalk(t, got, 0, 768, 0); !ok || show(path) != "[0 1 2]" {
		t.Error("walked", path)
	}
}

// fabricCase is a set of arguments, all of them in arrays that have more behind them.
type fabricCase struct {
	f        impl.Fabric
	at, addr int
	on       bool
	pairs    [][]int
	nodes    []impl.Node
	links    []impl.Link
	msgs     [][]impl.Msg
	entries  [][]impl.Entry
	prefixes [][]impl.Prefix
	numbers  [][]int
}

func (c *fabricCase) crowdMsgs(l []impl.Msg) []impl.Msg {
	whole := []impl.Msg{{As: -1}}
	for _, m := range l {
		m, prefixes, numbers := crowdedMsg(m)
		c.prefixes, c.numbers = append(c.prefixes, prefixes), append(c.numbers, numbers)
		whole = append(whole, m)
	}
	whole = append(whole, impl.Msg{As: -2}, impl.Msg{As: -3})
	c.msgs = append(c.msgs, whole)
	return whole[1 : 1+len(l)]
}

func (c *fabricCase) crowdRib(r impl.Rib) impl.Rib {
	out, entries, numbers := crowdedRib(r)
	c.entries, c.numbers = append(c.entries, entries), append(c.numbers, numbers)
	return out
}

func newFabricCase(f impl.Fabric, at, addr int, on bool, pairs [][]int) *fabricCase {
	c := &fabricCase{f: f, at: at, addr: addr, on: on, nodes: []impl.Node{{As: -1}}, links: []impl.Link{{A: -1}}}
	for _, n := range f.Nodes {
		own := slices.Concat([]impl.Prefix{{Addr: -1}}, n.Own, make([]impl.Prefix, 3))
		c.prefixes = append(c.prefixes, own)
		n.Own = own[1 : 1+len(n.Own)]
		n.Rib, n.Sent = c.crowdRib(n.Rib), c.crowdRib(n.Sent)
		c.nodes = append(c.nodes, n)
	}
	for _, x := range f.Links {
		x.Ab, x.Ba = c.crowdMsgs(x.Ab), c.crowdMsgs(x.Ba)
		c.links = append(c.links, x)
	}
	numbers := []int{-1}
	for _, pair := range pairs {
		numbers = slices.Concat(numbers, pair)
	}
	numbers = append(numbers, -2, -3, -4)
	place := 1
	for _, pair := range pairs {
		c.pairs = append(c.pairs, numbers[place:place+len(pair)])
		place += len(pair)
	}
	c.numbers = append(c.numbers, numbers)
	c.nodes, c.links = append(c.nodes, impl.Node{As: -2}, impl.Node{As: -3}), append(c.links, impl.Link{A: -2}, impl.Link{A: -3})
	c.f.Nodes, c.f.Links = c.nodes[1:1+len(f.Nodes)], c.links[1:1+len(f.Links)]
	return c
}

func (c *fabricCase) shown() string {
	return show(c.nodes) + show(c.links) + show(c.msgs) + show(c.entries) + show(c.prefixes) + show(c.numbers) + show(c.pairs)
}

// fabricResult has what a function returned; slices only, because nothing else can share memory.
type fabricResult struct {
	f     impl.Fabric
	fib   impl.Fib
	paths [][]int
}

func fabricCalls() map[string]func(*fabricCase) fabricResult {
	return map[string]func(*fabricCase) fabricResult{
		"FabricOk": func(c *fabricCase) fabricResult { impl.FabricOk(c.f); return fabricResult{} },
		"FabricNew": func(c *fabricCase) fabricResult {
			f, _ := impl.FabricNew(c.f.Nodes, c.pairs, c.f.Width)
			return fabricResult{f: f}
		},
		"Clos":    func(c *fabricCase) fabricResult { f, _ := impl.Clos(c.at, 2, c.f.Width); return fabricResult{f: f} },
		"Talk":    func(c *fabricCase) fabricResult { f, _ := impl.Talk(c.f, c.at); return fabricResult{f: f} },
		"Deliver": func(c *fabricCase) fabricResult { f, _ := impl.Deliver(c.f, c.at, c.on); return fabricResult{f: f} },
		"Turn":    func(c *fabricCase) fabricResult { f, _ := impl.Turn(c.f, c.at, c.on); return fabricResult{f: f} },
		"Mark":    func(c *fabricCase) fabricResult { f, _ := impl.Mark(c.f, c.at, c.on); return fabricResult{f: f} },
		"Settle":  func(c *fabricCase) fabricResult { f, _ := impl.Settle(c.f); return fabricResult{f: f} },
		"Settled": func(c *fabricCase) fabricResult { impl.Settled(c.f); return fabricResult{} },
		"Synced":  func(c *fabricCase) fabricResult { impl.Synced(c.f); return fabricResult{} },
		"FibAt":   func(c *fabricCase) fabricResult { f, _ := impl.FibAt(c.f, c.at); return fabricResult{fib: f} },
		"Walk": func(c *fabricCase) fabricResult {
			l, _ := impl.Walk(c.f, c.at, c.addr, 7)
			return fabricResult{paths: [][]int{l}}
		},
		"Hops": func(c *fabricCase) fabricResult { impl.Hops(c.f, c.at, c.addr); return fabricResult{} },
	}
}

func fabricCases(t *testing.T) []*fabricCase {
	t.Helper()
	var l []*fabricCase
	r := rand.New(rand.NewSource(55))
	good, bad := goodFabrics(t), badFabrics()
	for i, f := range slices.Concat(good[:40], good[60:120], []impl.Fabric{plainFabric(), plainFabric()}) {
		pairs := randomPairs(r, len(f.Nodes), 12)
		l = append(l, newFabricCase(f, i%5, addrsOf(f)[r.Intn(len(addrsOf(f)))], i%2 == 0, pairs), newFabricCase(f, 0, 256, i%2 == 1, append(pairs, []int{0, 1, 2})))
	}
	for i := 0; i < len(bad)-1; i += 37 {
		l = append(l, newFabricCase(bad[i], i%3, 256, i%2 == 0, [][]int{{0, 1}}))
	}
	full := netOf(1, numbered(2), linkOf(0, 0, 1, 0))
	full.Links[0].Ab = repeated(plainUpdate(), 500)
	refused := netOf(1, append(numbered(1), nodeOf(9, nil, 0, manyEntries(60, 5, 9), nil)), linkOf(0, 0, 1, 0))
	refused.Links[0].Ab = repeated(update(nil, manyPrefixes(3), impl.Attr{Path: []int{3}}), 2)
	return append(l, newFabricCase(full, 0, 256, true, nil), newFabricCase(refused, 0, 256, true, linePairs(2)))
}

func TestFabricArgumentsKept(t *testing.T) {
	checkKept(t, fabricCases(t), fabricCalls())
}

func (x fabricResult) msgSlices() [][]impl.Msg {
	var l [][]impl.Msg
	for _, link := range x.f.Links {
		l = append(l, link.Ab, link.Ba)
	}
	return l
}

func (x fabricResult) entrySlices() [][]impl.Entry {
	var l [][]impl.Entry
	for _, n := range x.f.Nodes {
		l = append(l, n.Rib.L, n.Sent.L)
	}
	return l
}

func (x fabricResult) prefixSlices() [][]impl.Prefix {
	var l [][]impl.Prefix
	for _, n := range x.f.Nodes {
		l = append(l, n.Own)
	}
	for _, m := range slices.Concat(x.msgSlices()...) {
		l = append(l, m.Gone, m.Came)
	}
	return l
}

func (x fabricResult) numberSlices() [][]int {
	l := slices.Clone(x.paths)
	for _, e := range slices.Concat(x.entrySlices()...) {
		l = append(l, e.Attr.Path, e.Attr.Comm)
	}
	for _, m := range slices.Concat(x.msgSlices()...) {
		l = append(l, m.Attr.Path, m.Attr.Comm)
	}
	return l
}

func (x fabricResult) hopSlices() [][]impl.Hop {
	var l [][]impl.Hop
	for _, g := range x.fib.L {
		l = append(l, g.Hops)
	}
	return l
}

// checkFabricsApart checks that two results share no memory with each other and with the arguments, nor within themselves.
func checkFabricsApart(t *testing.T, name string, c *fabricCase, a, b fabricResult) {
	t.Helper()
	checkApart(t, name, slices.Concat(c.numbers, a.numberSlices(), b.numberSlices()), func(i int) int { return 1000000 + i })
	checkApart(t, name, slices.Concat(c.prefixes, a.prefixSlices(), b.prefixSlices()), func(i int) impl.Prefix { return impl.Prefix{Addr: i} })
	checkApart(t, name, slices.Concat(a.hopSlices(), b.hopSlices()), func(i int) impl.Hop { return impl.Hop{If: i} })
	checkApartBy(t, name, slices.Concat(c.entries, a.entrySlices(), b.entrySlices()), func(i int) impl.Entry { return impl.Entry{Peer: i + 50} }, samePeer)
	checkApartBy(t, name, slices.Concat(c.msgs, a.msgSlices(), b.msgSlices()), func(i int) impl.Msg { return impl.Msg{As: i} }, func(x, y impl.Msg) bool { return x.As == y.As })
	checkApartBy(t, name, [][]impl.Group{a.fib.L, b.fib.L}, func(i int) impl.Group { return impl.Group{Prefix: impl.Prefix{Addr: i}} }, func(x, y impl.Group) bool { return x.Prefix == y.Prefix })
	checkApartBy(t, name, [][]impl.Node{c.nodes, a.f.Nodes, b.f.Nodes}, func(i int) impl.Node { return impl.Node{As: i} }, func(x, y impl.Node) bool { return x.As == y.As })
	checkApartBy(t, name, [][]impl.Link{c.links, a.f.Links, b.f.Links}, func(i int) impl.Link { return impl.Link{A: i} }, func(x, y impl.Link) bool { return x.A == y.A })
}

func TestFabricResultsAreNew(t *testing.T) {
	for name, call := range fabricCalls() {
		for i, c := range fabricCases(t) {
			a, b := call(c), call(c)
			if show(a) != show(b) {
				t.Fatal(name, "differs from call to call", i)
			}
			checkFabricsApart(t, name, c, a, b)
		}
	}
}

func TestFabricConstants(t *testing.T) {
	const nodes, links int8 = impl.MaxNodes, impl.MaxLinks
	if nodes != 8 || links != 12 {
		t.Error(nodes, links)
	}
}

// Where the arguments share memory with each other, the parts of the result do not.
func TestFabricSharedArguments(t *testing.T) {
	n := nodeOf(9, []impl.Prefix{{Addr: 256, Len: 8}}, 0, manyEntries(4, 3, 9), manyEntries(4, 3, 0))
	f := netOf(2, []impl.Node{n, n, n}, linkOf(0, 0, 1, 0), linkOf(1, 1, 2, 0), linkOf(2, 1, 0, 1))
	transit := repeated(plainUpdate(), 4)
	for i := range f.Links {
		f.Links[i].Ab, f.Links[i].Ba = transit, transit[:3]
	}
	pair := []int{0, 1}
	c := &fabricCase{f: f, at: 1, addr: 256, on: true, pairs: [][]int{pair, pair, pair}}
	for name, call := range fabricCalls() {
		x := call(c)
		checkApart(t, name, x.numberSlices(), func(i int) int { return 1000000 + i })
		checkApart(t, name, x.prefixSlices(), func(i int) impl.Prefix { return impl.Prefix{Addr: i} })
		checkApartBy(t, name, x.entrySlices(), func(i int) impl.Entry { return impl.Entry{Peer: i + 50} }, samePeer)
		checkApartBy(t, name, x.msgSlices(), func(i int) impl.Msg { return impl.Msg{As: i} }, func(x, y impl.Msg) bool { return x.As == y.As })
	}
}
