package tests

import (
	"math"
	"math/rand"
	"slices"
	"testing"

	"loop.example/g00557/impl"
)

func linkOf(a, ai, b, bi int) impl.Link {
	return impl.Link{A: a, Ai: ai, B: b, Bi: bi, Up: true}
}

func sameLink(a, b impl.Link) bool {
	return a.A == b.A && a.Ai == b.Ai && a.B == b.B && a.Bi == b.Bi && a.Up == b.Up && sameMsgs(a.Ab, b.Ab) && sameMsgs(a.Ba, b.Ba)
}

func sameFabric(a, b impl.Fabric) bool {
	return a.Width == b.Width && slices.EqualFunc(a.Nodes, b.Nodes, sameNode) && slices.EqualFunc(a.Links, b.Links, sameLink)
}

func isZeroFabric(f impl.Fabric) bool {
	return sameFabric(f, impl.Fabric{})
}

// brief says what distinguishes one fabric from others, as far as it fits on a few lines.
func brief(f impl.Fabric) string {
	text := "width " + show(f.Width)
	for _, n := range f.Nodes {
		text += show([]any{" switch", n.As, n.Own, n.Bw, n.Drain, len(n.Rib.L), len(n.Sent.L)})
	}
	for _, x := range f.Links {
		text += show([]any{" link", x.A, x.Ai, x.B, x.Bi, x.Up, len(x.Ab), len(x.Ba)})
	}
	return text
}

// copied has lists of its own, so that a switch or a link of it can be replaced.
func copied(f impl.Fabric) impl.Fabric {
	f.Nodes, f.Links = slices.Clone(f.Nodes), slices.Clone(f.Links)
	return f
}

func netOf(width int, nodes []impl.Node, links ...impl.Link) impl.Fabric {
	return impl.Fabric{Nodes: nodes, Links: links, Width: width}
}

func repeated(m impl.Msg, n int) []impl.Msg {
	return slices.Repeat([]impl.Msg{m}, n)
}

func plainUpdate() impl.Msg {
	return update([]impl.Prefix{{Addr: 256, Len: 9}}, []impl.Prefix{{Addr: 768, Len: 8}}, impl.Attr{Path: []int{3, 4}, Comm: []int{7}, Bw: 2})
}

// numbered are n switches of different AS numbers, and each of them has one prefix of length 8.
func numbered(n int) []impl.Node {
	var l []impl.Node
	for i := range n {
		l = append(l, nodeOf(i+1, []impl.Prefix{{Addr: 256 * (i + 1), Len: 8}}, 0, nil, nil))
	}
	return l
}

// silent are n switches that have nothing.
func silent(n int) []impl.Node {
	var l []impl.Node
	for i := range n {
		l = append(l, impl.Node{As: i + 1})
	}
	return l
}

func linePairs(n int) [][]int {
	var l [][]int
	for i := range n - 1 {
		l = append(l, []int{i, i + 1})
	}
	return l
}

func ringPairs(n int) [][]int {
	return append(linePairs(n), []int{n - 1, 0})
}

func starPairs(n int) [][]int {
	var l [][]int
	for i := 1; i < n; i++ {
		l = append(l, []int{0, i})
	}
	return l
}

func newFabric(t *testing.T, nodes []impl.Node, pairs [][]int, width int) impl.Fabric {
	t.Helper()
	f, ok := impl.FabricNew(nodes, pairs, width)
	if !ok {
		t.Fatal("no fabric", nodes, pairs, width)
	}
	return f
}

func settled(t *testing.T, f impl.Fabric) impl.Fabric {
	t.Helper()
	out, n := impl.Settle(f)
	if n < 0 {
		t.Fatal("does not settle", brief(f))
	}
	return out
}

func turned(t *testing.T, f impl.Fabric, link int, up bool) impl.Fabric {
	t.Helper()
	out, ok := impl.Turn(f, link, up)
	if !ok {
		t.Fatal("no turn", brief(f), link)
	}
	return out
}

func marked(t *testing.T, f impl.Fabric, node int, on bool) impl.Fabric {
	t.Helper()
	out, ok := impl.Mark(f, node, on)
	if !ok {
		t.Fatal("no mark", brief(f), node)
	}
	return out
}

func talked(t *testing.T, f impl.Fabric, node int) impl.Fabric {
	t.Helper()
	out, ok := impl.Talk(f, node)
	if !ok {
		t.Fatal("no talk", brief(f), node)
	}
	return out
}

// plainFabric is valid: two of its switches have two links, one link is down, and messages are in transit on two links.
func plainFabric() impl.Fabric {
	nodes := numbered(4)
	nodes[0] = plainNode()
	links := []impl.Link{linkOf(0, 0, 1, 1), linkOf(2, 3, 0, 7), linkOf(2, 0, 1, 0), linkOf(3, 7, 2, 4), linkOf(1, 2, 0, 5)}
	links[3].Up = false
	links[0].Ab = []impl.Msg{plainUpdate(), update(nil, nil, impl.Attr{})}
	links[0].Ba = []impl.Msg{update(nil, manyPrefixes(8), sentAttrs()[2])}
	links[4].Ba = repeated(plainUpdate(), 3)
	return netOf(2, nodes, links...)
}

// randomLinks use each interface at most once.
func randomLinks(r *rand.Rand, nodes, most int) []impl.Link {
	var l []impl.Link
	free := map[int][]int{}
	for node := range nodes {
		free[node] = r.Perm(8)
	}
	take := func(node int) int {
		iface := free[node][0]
		free[node] = free[node][1:]
		return iface
	}
	for range r.Intn(most + 1) {
		a, b := r.Intn(nodes), r.Intn(nodes)
		if a != b && len(free[a]) > 0 && len(free[b]) > 0 {
			l = append(l, linkOf(a, take(a), b, take(b)))
		}
	}
	return l
}

func randomTransit(r *rand.Rand, from []impl.Prefix) []impl.Msg {
	var l []impl.Msg
	for range max(0, r.Intn(7)-2) {
		l = append(l, randomUpdate(r, from))
	}
	return l
}

// randomRaw has switches with any tables, which need not correspond to each other.
func randomRaw(r *rand.Rand) impl.Fabric {
	f := impl.Fabric{Width: 1 + r.Intn(4)}
	for range 1 + r.Intn(8) {
		f.Nodes = append(f.Nodes, randomNode(r))
	}
	from := [][]impl.Prefix{ribPrefixes(), manyPrefixes(30)}[r.Intn(2)]
	f.Links = randomLinks(r, len(f.Nodes), 12)
	for i := range f.Links {
		if f.Links[i].Up = r.Intn(5) > 0; f.Links[i].Up {
			f.Links[i].Ab, f.Links[i].Ba = randomTransit(r, from), randomTransit(r, from)
		}
	}
	return f
}

// chooseOwn gives some of the switches one or two prefixes, of which there are few in total, so that the tables have room for all.
func chooseOwn(r *rand.Rand, nodes []impl.Node, from []impl.Prefix, most int) {
	for _, i := range r.Perm(len(nodes)) {
		own := somePlaces(r, from, min(2, most))
		most -= len(own)
		nodes[i] = nodeOf(nodes[i].As, own, nodes[i].Bw, nil, nil)
	}
}

func evenPrefixes() []impl.Prefix {
	return []impl.Prefix{{Addr: 256, Len: 8}, {Addr: 512, Len: 8}, {Addr: 768, Len: 8}, {Addr: 1024, Len: 8}, {Addr: 1280, Len: 8}, {Addr: 65280, Len: 8}}
}

func randomPairs(r *rand.Rand, nodes, most int) [][]int {
	var l [][]int
	uses := make([]int, nodes)
	for range r.Intn(most + 1) {
		a, b := r.Intn(nodes), r.Intn(nodes)
		if a != b && uses[a] < 8 && uses[b] < 8 {
			uses[a]++
			uses[b]++
			l = append(l, []int{a, b})
		}
	}
	return l
}

// randomBuilt is new, and has room for all routes. The AS numbers of its switches are different if sameAs is false.
func randomBuilt(t *testing.T, r *rand.Rand, from []impl.Prefix, sameAs bool) impl.Fabric {
	t.Helper()
	nodes := silent(1 + r.Intn(8))
	for i, as := range r.Perm(20)[:len(nodes)] {
		nodes[i].As = 60 + as
		if sameAs && r.Intn(2) == 0 {
			nodes[i].As = 50 + r.Intn(2)
		}
		nodes[i].Bw = []int{0, 10, 30, 1000}[r.Intn(4)]
	}
	chooseOwn(r, nodes, from, 6)
	return newFabric(t, nodes, randomPairs(r, len(nodes), 12), 1+r.Intn(4))
}

// disturb lets switches talk, delivers messages, and turns and marks, and sometimes settles.
func disturb(t *testing.T, r *rand.Rand, f impl.Fabric, steps int) impl.Fabric {
	t.Helper()
	for range steps {
		node, link := r.Intn(len(f.Nodes)), r.Intn(len(f.Links)+1)
		kind := r.Intn(20)
		switch {
		case kind == 0:
			f, _ = impl.Settle(f)
		case kind == 1:
			f = marked(t, f, node, !f.Nodes[node].Drain)
		case kind < 8:
			f = talked(t, f, node)
		case link == len(f.Links):
		case kind == 8:
			f = turned(t, f, link, !f.Links[link].Up)
		default:
			f, _ = impl.Deliver(f, link, r.Intn(2) == 0)
		}
	}
	return f
}

// goodFabrics are valid.
func goodFabrics(t *testing.T) []impl.Fabric {
	t.Helper()
	r := rand.New(rand.NewSource(50))
	l := []impl.Fabric{netOf(1, silent(1)), netOf(4, numbered(8)), {Nodes: numbered(1), Links: []impl.Link{}, Width: 3}, plainFabric()}
	for n := range 12 {
		two := netOf(1+n%4, silent(2), linkOf(n%2, n%8, (n+1)%2, 7-n%8))
		busy := copied(two)
		busy.Links[0].Ab, busy.Links[0].Ba = repeated(plainUpdate(), []int{1, 499, 500, 0}[n%4]), repeated(update(nil, nil, impl.Attr{}), n)
		l = append(l, two, busy)
	}
	for n := 2; n <= 8; n++ {
		for _, pairs := range [][][]int{nil, linePairs(n), ringPairs(n), starPairs(n)} {
			f := newFabric(t, numbered(n), pairs, 2)
			l = append(l, f, settled(t, f))
		}
	}
	for _, size := range [][2]int{{1, 1}, {2, 2}, {3, 4}, {6, 2}} {
		f, _ := impl.Clos(size[0], size[1], 3)
		l = append(l, f, settled(t, f), settled(t, marked(t, f, size[0], true)))
	}
	for range 60 {
		l = append(l, randomRaw(r), disturb(t, r, randomBuilt(t, r, ribPrefixes(), true), r.Intn(40)))
	}
	return l
}

// badNets are wrong in their switches or their width.
func badNets() []impl.Fabric {
	l := []impl.Fabric{{}, {Width: 2}, {Width: 2, Nodes: []impl.Node{}}, netOf(2, silent(9)), netOf(2, numbered(10)), netOf(2, slices.Repeat(silent(1), 700))}
	for _, width := range []int{0, -1, -4, 5, 6, 60, 1 << 32, 1<<32 + 2, math.MaxInt, math.MinInt} {
		f := plainFabric()
		f.Width = width
		l = append(l, f, netOf(width, silent(1)))
	}
	for i, n := range badNodes() {
		f := plainFabric()
		f.Nodes[i%4] = n
		l = append(l, f)
		if i%10 == 0 {
			l = append(l, netOf(2, []impl.Node{n}), netOf(2, append(silent(7), n)))
		}
	}
	return l
}

// badEnds are fabrics with a link that is wrong in one of its ends.
func badEnds() []impl.Fabric {
	var l []impl.Fabric
	with := func(at int, change func(*impl.Link)) {
		f := plainFabric()
		change(&f.Links[at])
		l = append(l, f)
	}
	for at := range 5 {
		for _, node := range []int{-1, -2, -4, 4, 5, 8, 100, 1 << 32, 1<<32 + 1, math.MaxInt, math.MinInt} {
			with(at, func(x *impl.Link) { x.A = node })
			with(at, func(x *impl.Link) { x.B = node })
		}
		for _, iface := range badIfaces() {
			with(at, func(x *impl.Link) { x.Ai = iface })
			with(at, func(x *impl.Link) { x.Bi = iface })
		}
		with(at, func(x *impl.Link) { x.A, x.Ai = x.B, 6 })
		with(at, func(x *impl.Link) { x.B, x.Bi = x.A, 6 })
		with(at, func(x *impl.Link) { x.B, x.Bi = x.A, x.Ai })
		for other := range 5 {
			from := plainFabric().Links[other]
			for _, e := range [][2]int{{from.A, from.Ai}, {from.B, from.Bi}} {
				if x := plainFabric().Links[at]; other != at && x.B != e[0] {
					with(at, func(x *impl.Link) { x.A, x.Ai = e[0], e[1] })
				}
				if x := plainFabric().Links[at]; other != at && x.A != e[0] {
					with(at, func(x *impl.Link) { x.B, x.Bi = e[0], e[1] })
				}
			}
		}
	}
	return l
}

// notUpdates are messages that must not be in transit.
func notUpdates() []impl.Msg {
	return append(badMsgs(), impl.Msg{Kind: impl.MsKeep}, impl.Msg{Kind: impl.MsNotify, Error: impl.ErCease}, impl.Msg{Kind: impl.MsOpen, As: 5, Hold: 9, Id: 1})
}

// badTransits are wrong in the messages of a link.
func badTransits() []impl.Fabric {
	var l []impl.Fabric
	with := func(at int, up bool, ab, ba []impl.Msg) {
		f := plainFabric()
		f.Links[at].Up, f.Links[at].Ab, f.Links[at].Ba = up, ab, ba
		l = append(l, f)
	}
	some := repeated(plainUpdate(), 2)
	for i, m := range notUpdates() {
		one, last := []impl.Msg{m}, append(repeated(plainUpdate(), 9), m)
		with(i%3, true, one, nil)
		with(i%3, true, nil, one)
		with(i%3, true, some, last)
		with(i%3, true, last, some)
	}
	for _, n := range []int{501, 502, 1000, 5000} {
		with(n%3, true, repeated(plainUpdate(), n), nil)
		with(n%3, true, some, repeated(update(nil, nil, impl.Attr{}), n))
	}
	for at := range 5 {
		with(at, false, some[:1], nil)
		with(at, false, nil, some[:1])
		with(at, false, some, some)
		with(at, false, repeated(plainUpdate(), 500), nil)
	}
	return l
}

// badFabrics are valid but for one thing.
func badFabrics() []impl.Fabric {
	l := slices.Concat(badNets(), badEnds(), badTransits())
	for _, n := range []int{13, 14, 20, 32} {
		l = append(l, netOf(2, silent(8), crossLinks(n)...))
	}
	return append(l, netOf(2, silent(2), slices.Repeat([]impl.Link{linkOf(0, 0, 1, 0)}, 2)...), netOf(2, silent(2), make([]impl.Link, 100000)...))
}

// crossLinks are n links of eight switches; no interface is used twice.
func crossLinks(n int) []impl.Link {
	var l []impl.Link
	for i := range n {
		a, b := i%8, (i+1+i/8)%8
		l = append(l, linkOf(a, i/8, b, 4+i/8))
	}
	return l
}

func TestFabricOk(t *testing.T) {
	checkValidity(t, impl.FabricOk, goodFabrics(t), badFabrics())
}

func TestFabricOkEveryNumber(t *testing.T) {
	for n := -3; n < 70; n++ {
		if impl.FabricOk(netOf(n, silent(3))) != (n >= 1 && n <= 4) {
			t.Error("width", n)
		}
	}
	for n := range 70 {
		if impl.FabricOk(netOf(2, silent(n))) != (n >= 1 && n <= 8) || impl.FabricOk(netOf(2, numbered(n))) != (n >= 1 && n <= 8) {
			t.Error("switches", n)
		}
	}
	for n := range 33 {
		if impl.FabricOk(netOf(2, silent(8), crossLinks(n)...)) != (n <= 12) {
			t.Error("links", n)
		}
	}
	for n := range 510 {
		ab, ba := netOf(2, silent(2), linkOf(0, 0, 1, 0)), netOf(2, silent(2), linkOf(0, 0, 1, 0))
		ab.Links[0].Ab, ba.Links[0].Ba = repeated(plainUpdate(), n), repeated(plainUpdate(), n)
		if impl.FabricOk(ab) != (n <= 500) || impl.FabricOk(ba) != (n <= 500) {
			t.Error("messages", n)
		}
		ab.Links[0].Up, ba.Links[0].Up = false, false
		if impl.FabricOk(ab) != (n == 0) || impl.FabricOk(ba) != (n == 0) {
			t.Error("messages at a link that is down", n)
		}
	}
	for i, n := range goodNodes() {
		f := netOf(2, silent(3), linkOf(0, 1, 2, 3))
		f.Nodes[i%3] = n
		if !impl.FabricOk(f) {
			t.Error(n)
		}
	}
	for i, m := range goodUpdates() {
		f := netOf(2, silent(3), linkOf(0, 1, 2, 3))
		f.Links[0].Ab, f.Links[0].Ba = repeated(m, 1+i%3), repeated(m, 2)
		if !impl.FabricOk(f) {
			t.Error(m)
		}
	}
}

func TestFabricOkEnds(t *testing.T) {
	for a := -2; a < 5; a++ {
		for b := -2; b < 5; b++ {
			for ai := -2; ai < 10; ai++ {
				for bi := -2; bi < 10; bi++ {
					want := a >= 0 && a < 3 && b >= 0 && b < 3 && a != b && ai >= 0 && ai < 8 && bi >= 0 && bi < 8
					up, down := netOf(1, silent(3), linkOf(a, ai, b, bi)), netOf(1, silent(3), linkOf(a, ai, b, bi))
					down.Links[0].Up = false
					if impl.FabricOk(up) != want || impl.FabricOk(down) != want {
						t.Fatal(a, ai, b, bi)
					}
				}
			}
		}
	}
}

// No interface is used twice, whichever of the links are up.
func TestFabricOkUsedTwice(t *testing.T) {
	first, second := linkOf(0, 0, 1, 2), linkOf(2, 1, 1, 3)
	for n := range 4 * 4 * 4 * 4 * 8 {
		third := linkOf(n%4, n/4%4, n/16%4, n/64%4)
		ends := map[[2]int]bool{}
		for _, x := range []impl.Link{first, second, third} {
			ends[[2]int{x.A, x.Ai}], ends[[2]int{x.B, x.Bi}] = true, true
		}
		first.Up, second.Up, third.Up = n/256%2 == 0, n/512%2 == 0, n/1024 == 0
		want := third.A != third.B && len(ends) == 6
		for _, f := range []impl.Fabric{netOf(1, silent(4), first, second, third), netOf(1, silent(4), third, first, second), netOf(1, silent(4), second, third, first)} {
			if impl.FabricOk(f) != want {
				t.Fatal(f.Links)
			}
		}
	}
}

// netFrom is the reference for FabricNew with valid arguments.
func netFrom(nodes []impl.Node, pairs [][]int, width int) impl.Fabric {
	f := netOf(width, nodes)
	for i, pair := range pairs {
		before := slices.Concat(pairs[:i]...)
		count := func(node int) int {
			return len(slices.DeleteFunc(slices.Clone(before), func(n int) bool { return n != node }))
		}
		f.Links = append(f.Links, linkOf(pair[0], count(pair[0]), pair[1], count(pair[1])))
	}
	return f
}

func checkNew(t *testing.T, nodes []impl.Node, pairs [][]int, width int, fits bool) {
	t.Helper()
	want := impl.Fabric{}
	if fits {
		want = netFrom(nodes, pairs, width)
	}
	if got, ok := impl.FabricNew(nodes, pairs, width); ok != fits || !sameFabric(got, want) || impl.FabricOk(got) != fits {
		t.Fatal(nodes, pairs, width, brief(got), ok)
	}
}

func TestFabricNew(t *testing.T) {
	for n := 1; n <= 8; n++ {
		for width := 1; width <= 4; width++ {
			for _, pairs := range [][][]int{nil, {}, linePairs(n), starPairs(n)} {
				checkNew(t, numbered(n), pairs, width, true)
				checkNew(t, silent(n), pairs, width, true)
			}
			checkNew(t, numbered(n), ringPairs(n), width, n > 1)
		}
	}
	r := rand.New(rand.NewSource(51))
	for range 1000 {
		n := 1 + r.Intn(8)
		nodes := silent(n)
		for i := range nodes {
			nodes[i] = randomNode(r)
		}
		checkNew(t, nodes, randomPairs(r, n, 12), 1+r.Intn(4), true)
	}
	for _, f := range goodFabrics(t) {
		checkNew(t, f.Nodes, randomPairs(r, len(f.Nodes), 12), f.Width, true)
	}
	f := newFabric(t, silent(3), [][]int{{0, 1}, {2, 1}, {1, 0}, {0, 2}}, 4)
	if text := show(f.Links); text != "[{0 0 1 0 true [] []} {2 0 1 1 true [] []} {1 2 0 1 true [] []} {0 2 2 1 true [] []}]" {
		t.Error(text)
	}
}

// The same pair may occur more than once, but a switch has only MaxPeers interfaces, and a fabric only MaxLinks links.
func TestFabricNewLimits(t *testing.T) {
	for n := range 20 {
		same, both := slices.Repeat([][]int{{1, 0}}, n), slices.Repeat([][]int{{0, 1}, {2, 0}}, n)
		checkNew(t, silent(2), same, 1, n <= 8)
		checkNew(t, silent(3), both, 1, n <= 4)
		checkNew(t, silent(6), slices.Concat(slices.Repeat([][]int{{2, 3}}, 6), same), 1, n <= 6)
		checkNew(t, silent(8), slices.Repeat([][]int{{0, 1}, {2, 3}, {4, 5}, {6, 7}}, n), 1, n <= 3)
		checkNew(t, silent(8), slices.Repeat(ringPairs(8), 2)[:min(n, 16)], 1, n <= 12)
		checkNew(t, silent(n), nil, 1, n >= 1 && n <= 8)
		checkNew(t, numbered(n), linePairs(max(n, 1)), 1, n >= 1 && n <= 8)
		checkNew(t, silent(3), nil, n-5, n >= 6 && n <= 9)
	}
	checkNew(t, silent(3), make([][]int, 100000), 1, false)
	checkNew(t, silent(3), slices.Repeat([][]int{{0, 1}}, 100000), 1, false)
}

func TestFabricNewInvalid(t *testing.T) {
	bad := [][]int{nil, {}, {0}, {1}, {0, 1, 2}, {0, 1, 0, 1}, {0, 0}, {2, 2}, {0, 1, 1}}
	for _, n := range []int{-1, -2, 3, 4, 7, 8, 1 << 32, 1<<32 + 1, math.MaxInt, math.MinInt} {
		bad = append(bad, []int{n, 0}, []int{0, n}, []int{n, n}, []int{n})
	}
	for _, pair := range bad {
		for _, pairs := range [][][]int{{pair}, {{0, 1}, pair}, {pair, {0, 1}}, {{0, 1}, {1, 2}, pair, {2, 0}}} {
			checkNew(t, silent(3), pairs, 2, false)
		}
	}
	for i, n := range badNodes() {
		nodes := numbered(4)
		nodes[i%4] = n
		checkNew(t, nodes, linePairs(4), 2, false)
		checkNew(t, nodes, nil, 2, false)
	}
	for _, width := range []int{0, -1, 5, 1 << 32, 1<<32 + 2, math.MaxInt, math.MinInt} {
		checkNew(t, silent(3), linePairs(3), width, false)
		checkNew(t, silent(1), nil, width, false)
	}
	checkNew(t, nil, nil, 2, false)
	checkNew(t, nil, [][]int{{0, 1}}, 2, false)
	checkNew(t, make([]impl.Node, 100000), nil, 2, false)
}

// closOf is the reference for Clos with valid arguments.
func closOf(leaves, spines, width int) impl.Fabric {
	f := impl.Fabric{Width: width}
	for i := range leaves {
		f.Nodes = append(f.Nodes, nodeOf(100+i, []impl.Prefix{{Addr: 256 * (i + 1), Len: 8}}, 0, nil, nil))
		for j := range spines {
			f.Links = append(f.Links, linkOf(i, j, leaves+j, i))
		}
	}
	f.Nodes = append(f.Nodes, slices.Repeat([]impl.Node{{As: 50}}, spines)...)
	return f
}

func TestClos(t *testing.T) {
	sizes := []int{-7, -1, 0, 1, 2, 3, 4, 5, 6, 7, 8, 9, 12, 13, 100, 1 << 31, 1 << 32, 1<<32 + 1, 1 << 62, math.MaxInt, math.MaxInt - 1, math.MinInt, math.MinInt + 1}
	fits := 0
	for _, leaves := range sizes {
		for _, spines := range sizes {
			for _, width := range []int{-1, 0, 1, 2, 3, 4, 5, 1 << 32, 1<<32 + 1, math.MaxInt, math.MinInt} {
				small := leaves >= 1 && leaves <= 8 && spines >= 1 && spines <= 8 && leaves+spines <= 8 && leaves*spines <= 12
				want := impl.Fabric{}
				if small && width >= 1 && width <= 4 {
					want = closOf(leaves, spines, width)
					fits++
				}
				got, ok := impl.Clos(leaves, spines, width)
				if ok != (len(want.Nodes) > 0) || !sameFabric(got, want) || impl.FabricOk(got) != ok {
					t.Fatal(leaves, spines, width, brief(got), ok)
				}
			}
		}
	}
	if fits != 25*4 {
		t.Error(fits)
	}
}

// talkOf is the reference for Talk with valid arguments.
func talkOf(f impl.Fabric, node int) (impl.Fabric, bool) {
	out := copied(f)
	say := func(iface int, transit []impl.Msg) []impl.Msg {
		n, l := sayOf(out.Nodes[node], iface)
		out.Nodes[node] = n
		return slices.Concat(transit, l)
	}
	for i, x := range out.Links {
		switch {
		case !x.Up:
		case x.A == node:
			out.Links[i].Ab = say(x.Ai, x.Ab)
		case x.B == node:
			out.Links[i].Ba = say(x.Bi, x.Ba)
		}
		if len(out.Links[i].Ab) > 500 || len(out.Links[i].Ba) > 500 {
			return f, false
		}
	}
	return out, true
}

func checkTalk(t *testing.T, f impl.Fabric, node int) impl.Fabric {
	t.Helper()
	want, fits := talkOf(f, node)
	got, ok := impl.Talk(f, node)
	if ok != fits || !sameFabric(got, want) || !impl.FabricOk(got) {
		t.Fatal(brief(f), node, "talked", brief(got), ok, "and not", brief(want), fits)
	}
	return got
}

func TestTalk(t *testing.T) {
	for _, f := range goodFabrics(t) {
		for node := range f.Nodes {
			once := checkTalk(t, f, node)
			checkTalk(t, once, node)
			checkTalk(t, marked(t, once, node, !once.Nodes[node].Drain), node)
		}
	}
}

func nodeIndices(f impl.Fabric) []int {
	return []int{-1, -2, -8, len(f.Nodes), len(f.Nodes) + 1, 8, 9, 1 << 32, math.MaxInt, math.MinInt}
}

func linkIndices(f impl.Fabric) []int {
	return []int{-1, -2, -12, len(f.Links), len(f.Links) + 1, 12, 13, 1 << 32, math.MaxInt, math.MinInt}
}

// checkRefused calls a function with fabrics that are not valid, and with indices that are too small or too large.
func checkRefused(t *testing.T, wrong func(impl.Fabric) []int, call func(f impl.Fabric, at int) bool) {
	t.Helper()
	for _, f := range badFabrics() {
		for _, at := range []int{0, 1, -1, len(f.Nodes)} {
			if !call(f, at) {
				t.Fatal("not valid", brief(f), at)
			}
		}
	}
	for _, f := range goodFabrics(t) {
		for _, at := range wrong(f) {
			if !call(f, at) {
				t.Fatal("no such index", brief(f), at)
			}
		}
	}
}

func TestTalkInvalid(t *testing.T) {
	checkRefused(t, nodeIndices, func(f impl.Fabric, at int) bool {
		got, ok := impl.Talk(f, at)
		return !ok && isZeroFabric(got)
	})
}

func transitText(x impl.Link) string {
	return show(saidText(x.Ab)) + " " + show(saidText(x.Ba))
}

func TestTalkExamples(t *testing.T) {
	nodes := numbered(3)
	alone := netOf(2, nodes, linkOf(1, 0, 2, 0))
	if got := checkTalk(t, alone, 0); !sameFabric(got, alone) {
		t.Error("without links", got)
	}
	down := netOf(2, nodes, linkOf(0, 0, 1, 0), linkOf(2, 7, 0, 3))
	down.Links[0].Up, down.Links[1].Up = false, false
	if got := checkTalk(t, down, 0); !sameFabric(got, down) {
		t.Error("links that are down", got)
	}
	half := copied(down)
	half.Links[1].Up = true
	got := checkTalk(t, half, 0)
	if transitText(got.Links[0]) != "[] []" || transitText(got.Links[1]) != "[] [update +1.0/8 pref 0 bw 0 path 1]" || len(got.Nodes[0].Sent.L) != 1 {
		t.Error("one of two links is up", got)
	}
	both := netOf(2, nodes, linkOf(0, 4, 1, 0), linkOf(2, 7, 0, 3), linkOf(0, 5, 1, 5), linkOf(1, 1, 2, 2))
	got = checkTalk(t, both, 0)
	for i, want := range []string{"[update +1.0/8 pref 0 bw 0 path 1] []", "[] [update +1.0/8 pref 0 bw 0 path 1]", "[update +1.0/8 pref 0 bw 0 path 1] []", "[] []"} {
		if transitText(got.Links[i]) != want {
			t.Error(i, got.Links[i])
		}
	}
	if len(got.Nodes[0].Sent.L) != 3 || len(got.Nodes[1].Sent.L) != 0 || !sameFabric(checkTalk(t, got, 0), got) {
		t.Error("several links", got.Nodes)
	}
	got = checkTalk(t, marked(t, got, 0, true), 0)
	if transitText(got.Links[1]) != "[] [update +1.0/8 pref 0 bw 0 path 1 update +1.0/8 pref 0 bw 0 path 1 marks 1000]" {
		t.Error("appended", got.Links[1])
	}
}

// A switch talks on its links in order: what is announced on the first one is not announced on the next if there is no room for it.
func TestTalkInOrder(t *testing.T) {
	full := nodeOf(77, []impl.Prefix{{Addr: 65280, Len: 8}}, 0, nil, manyEntries(59, 6, 0))
	for _, links := range [][]impl.Link{{linkOf(0, 1, 1, 0), linkOf(0, 0, 2, 0)}, {linkOf(1, 0, 0, 5), linkOf(2, 0, 0, 3), linkOf(0, 4, 1, 2)}, {linkOf(2, 0, 0, 7), linkOf(0, 0, 1, 0)}} {
		f := netOf(1, append([]impl.Node{full}, silent(2)...), links...)
		got := checkTalk(t, f, 0)
		for i, x := range got.Links {
			if (len(x.Ab)+len(x.Ba) > 0) != (i == 0) {
				t.Error(got.Links)
			}
		}
	}
}

// With 500 messages in transit there is no room for another one; then the switch says nothing on its other links either.
func TestTalkNoRoom(t *testing.T) {
	nodes := numbered(3)
	nodes[0] = nodeOf(1, []impl.Prefix{{Addr: 256, Len: 8}, {Addr: 4096, Len: 8}}, 0, nil, nil)
	for n := 490; n <= 500; n++ {
		for _, at := range []int{0, 1, 2} {
			f := netOf(1, nodes, linkOf(0, 0, 1, 0), linkOf(2, 1, 0, 1), linkOf(0, 2, 2, 2))
			f.Links[at].Ab, f.Links[at].Ba = repeated(plainUpdate(), n), repeated(plainUpdate(), n)
			if got := checkTalk(t, f, 0); sameFabric(got, f) != (n > 498) {
				t.Error(n, at)
			}
			if got := checkTalk(t, f, 1); sameFabric(got, f) != (n > 499 && at == 0) {
				t.Error(n, at, "the other end")
			}
		}
	}
	f := netOf(1, nodes, linkOf(0, 0, 1, 0))
	f.Links[0].Ab = repeated(plainUpdate(), 500)
	if got, ok := impl.Talk(f, 1); !ok || len(got.Links[0].Ab) != 500 || len(got.Links[0].Ba) != 1 {
		t.Error("the other direction has room")
	}
	silenced := netOf(1, silent(2), linkOf(0, 0, 1, 0))
	silenced.Links[0].Ab, silenced.Links[0].Ba = repeated(plainUpdate(), 500), repeated(plainUpdate(), 500)
	if got, ok := impl.Talk(silenced, 0); !ok || !sameFabric(got, silenced) {
		t.Error("nothing to say")
	}
}

// deliverOf is the reference for Deliver with valid arguments.
func deliverOf(f impl.Fabric, link int, ab bool) (impl.Fabric, bool) {
	out := copied(f)
	x := &out.Links[link]
	transit, node, iface := &x.Ab, x.B, x.Bi
	if !ab {
		transit, node, iface = &x.Ba, x.A, x.Ai
	}
	if len(*transit) == 0 {
		return f, false
	}
	out.Nodes[node], _ = hearOfNode(out.Nodes[node], iface, (*transit)[0])
	*transit = (*transit)[1:]
	return out, true
}

func checkDeliver(t *testing.T, f impl.Fabric, link int, ab bool) (impl.Fabric, bool) {
	t.Helper()
	want, some := deliverOf(f, link, ab)
	got, ok := impl.Deliver(f, link, ab)
	if ok != some || !sameFabric(got, want) || !impl.FabricOk(got) {
		t.Fatal(brief(f), link, ab, "delivered", brief(got), ok, "and not", brief(want), some)
	}
	return got, ok
}

func TestDeliver(t *testing.T) {
	for _, f := range goodFabrics(t) {
		for link := range f.Links {
			for _, ab := range []bool{false, true} {
				g, ok := checkDeliver(t, f, link, ab)
				for n := 0; ok && n < 10; n++ {
					g, ok = checkDeliver(t, g, link, ab)
				}
				checkDeliver(t, g, link, !ab)
			}
		}
	}
}

func TestDeliverInvalid(t *testing.T) {
	checkRefused(t, linkIndices, func(f impl.Fabric, at int) bool {
		got, ok := impl.Deliver(f, at, true)
		other, fine := impl.Deliver(f, at, false)
		return !ok && isZeroFabric(got) && !fine && isZeroFabric(other)
	})
}

func TestDeliverExamples(t *testing.T) {
	p, q := impl.Prefix{Addr: 2048, Len: 8}, impl.Prefix{Addr: 2304, Len: 8}
	f := netOf(1, numbered(3), linkOf(0, 0, 1, 1), linkOf(2, 2, 1, 3))
	first, second := update(nil, []impl.Prefix{p}, impl.Attr{Path: []int{9}}), update([]impl.Prefix{p}, []impl.Prefix{q}, impl.Attr{Path: []int{8}})
	f.Links[1].Ab, f.Links[1].Ba = []impl.Msg{first, second}, []impl.Msg{second, first}
	for _, link := range []int{0, 1} {
		down := copied(f)
		down.Links[1] = linkOf(2, 2, 1, 3)
		down.Links[0].Up = link == 0
		if _, ok := checkDeliver(t, down, link, true); ok {
			t.Error("no message")
		}
	}
	g, _ := checkDeliver(t, f, 1, true)
	if len(g.Links[1].Ab) != 1 || len(g.Links[1].Ba) != 2 || show(g.Nodes[1].Rib.L[1:]) != "[{{2048 8} 3 {[9] 100 [] 0}}]" || len(g.Nodes[2].Rib.L) != 1 {
		t.Error(g)
	}
	g, _ = checkDeliver(t, g, 1, true)
	if len(g.Links[1].Ab) != 0 || show(g.Nodes[1].Rib.L[1:]) != "[{{2304 8} 3 {[8] 100 [] 0}}]" {
		t.Error(g)
	}
	g, _ = checkDeliver(t, g, 1, false)
	g, _ = checkDeliver(t, g, 1, false)
	if len(g.Links[1].Ba) != 0 || show(g.Nodes[2].Rib.L[1:]) != "[{{2048 8} 2 {[9] 100 [] 0}} {{2304 8} 2 {[8] 100 [] 0}}]" {
		t.Error(g)
	}
	if g, ok := checkDeliver(t, g, 1, false); ok || len(g.Nodes) != 3 {
		t.Error("no message is left")
	}
}

// An update that the other end has no room for, or that has passed it, is removed all the same.
func TestDeliverRefused(t *testing.T) {
	f := netOf(1, silent(2), linkOf(0, 0, 1, 4))
	f.Nodes[1] = nodeOf(2, nil, 0, manyEntries(59, 5, 2), nil)
	f.Links[0].Ab = []impl.Msg{update(nil, manyPrefixes(2), impl.Attr{Path: []int{9}}), update(nil, manyPrefixes(2), impl.Attr{Path: []int{9, 2}}), update(nil, manyPrefixes(1), impl.Attr{Path: []int{9}})}
	for n, want := range []int{59, 59, 60} {
		f, _ = checkDeliver(t, f, 0, true)
		if len(f.Links[0].Ab) != 2-n || len(f.Nodes[1].Rib.L) != want {
			t.Error(n, f)
		}
	}
}

// turnOf is the reference for Turn with valid arguments.
func turnOf(f impl.Fabric, link int, up bool) impl.Fabric {
	out := copied(f)
	x := &out.Links[link]
	if x.Up == up {
		return f
	}
	x.Up, x.Ab, x.Ba = up, nil, nil
	out.Nodes[x.A] = lostOf(out.Nodes[x.A], x.Ai)
	out.Nodes[x.B] = lostOf(out.Nodes[x.B], x.Bi)
	return out
}

func TestTurn(t *testing.T) {
	for _, f := range goodFabrics(t) {
		for link := range f.Links {
			for _, up := range []bool{false, true} {
				got, ok := impl.Turn(f, link, up)
				if want := turnOf(f, link, up); !ok || !sameFabric(got, want) || !impl.FabricOk(got) {
					t.Fatal(brief(f), link, up, brief(got), ok)
				}
				if again, ok := impl.Turn(got, link, up); !ok || !sameFabric(again, got) {
					t.Fatal("again", brief(f), link, up, brief(again), ok)
				}
				if back, ok := impl.Turn(got, link, !up); !ok || !sameFabric(back, turnOf(got, link, !up)) {
					t.Fatal("and back", brief(f), link, up, brief(back), ok)
				}
			}
		}
	}
}

func TestTurnInvalid(t *testing.T) {
	checkRefused(t, linkIndices, func(f impl.Fabric, at int) bool {
		got, ok := impl.Turn(f, at, true)
		other, fine := impl.Turn(f, at, false)
		return !ok && isZeroFabric(got) && !fine && isZeroFabric(other)
	})
}

func TestTurnExamples(t *testing.T) {
	f := plainFabric()
	if got := turned(t, f, 0, true); !sameFabric(got, f) || len(got.Links[0].Ab) != 2 {
		t.Error("on as before", got)
	}
	if got := turned(t, f, 3, false); !sameFabric(got, f) {
		t.Error("off as before", got)
	}
	off := turned(t, f, 0, false)
	if x := off.Links[0]; x.Up || len(x.Ab)+len(x.Ba) > 0 || len(off.Links[4].Ba) != 3 || len(of(off.Nodes[0].Rib, 0))+len(of(off.Nodes[0].Sent, 0)) > 0 {
		t.Error("off", off)
	}
	on := turned(t, off, 0, true)
	if x := on.Links[0]; !x.Up || len(x.Ab)+len(x.Ba) > 0 || !slices.EqualFunc(on.Nodes, off.Nodes, sameNode) {
		t.Error("on again", on)
	}
	stale := copied(f)
	stale.Nodes[2] = nodeOf(3, nil, 0, manyEntries(5, 4, 3), manyEntries(4, 4, 0))
	stale.Nodes[3] = nodeOf(4, nil, 0, manyEntries(5, 7, 4), manyEntries(4, 6, 0))
	if got := turned(t, stale, 3, true); len(got.Nodes[2].Rib.L)+len(got.Nodes[2].Sent.L)+len(got.Nodes[3].Rib.L) > 0 || len(got.Nodes[3].Sent.L) != 4 {
		t.Error("on", got)
	}
}

func TestMark(t *testing.T) {
	for _, f := range goodFabrics(t) {
		for node := range f.Nodes {
			for _, on := range []bool{false, true} {
				want := copied(f)
				want.Nodes[node].Drain = on
				if got, ok := impl.Mark(f, node, on); !ok || !sameFabric(got, want) || !impl.FabricOk(got) {
					t.Fatal(brief(f), node, on, brief(got), ok)
				}
			}
		}
	}
}

func TestMarkInvalid(t *testing.T) {
	checkRefused(t, nodeIndices, func(f impl.Fabric, at int) bool {
		got, ok := impl.Mark(f, at, true)
		other, fine := impl.Mark(f, at, false)
		return !ok && isZeroFabric(got) && !fine && isZeroFabric(other)
	})
}
