package tests

import (
	"math/rand"
	"slices"
	"testing"

	"loop.example/g00557/impl"
)

// settleOf is the reference for Settle with a valid fabric.
func settleOf(f impl.Fabric) (impl.Fabric, int) {
	for round := range 60 {
		for node := range f.Nodes {
			f, _ = talkOf(f, node)
		}
		some := false
		for link := range f.Links {
			for _, ab := range []bool{true, false} {
				for more := true; more; {
					f, more = deliverOf(f, link, ab)
					some = some || more
				}
			}
		}
		if !some {
			return f, round
		}
	}
	return f, -1
}

func checkSettle(t *testing.T, f impl.Fabric) (impl.Fabric, int) {
	t.Helper()
	want, rounds := settleOf(f)
	got, n := impl.Settle(f)
	if n != rounds || !sameFabric(got, want) || !impl.FabricOk(got) {
		t.Fatal(brief(f), "settled", brief(got), n, "and not", brief(want), rounds)
	}
	if again, m := impl.Settle(got); n >= 0 && (m != 0 || !sameFabric(again, got)) {
		t.Fatal(brief(f), "settled again", brief(again), m)
	}
	return got, n
}

func TestSettle(t *testing.T) {
	for _, f := range goodFabrics(t) {
		checkSettle(t, f)
	}
	r := rand.New(rand.NewSource(52))
	for range 150 {
		f, _ := checkSettle(t, randomRaw(r))
		checkSettle(t, disturb(t, r, f, 10))
	}
	for _, f := range badFabrics() {
		if got, n := impl.Settle(f); n != -1 || !isZeroFabric(got) {
			t.Fatal(brief(f), brief(got), n)
		}
	}
}

func reversed(l []impl.Node) []impl.Node {
	l = slices.Clone(l)
	slices.Reverse(l)
	return l
}

func TestSettleRounds(t *testing.T) {
	for n := 1; n <= 8; n++ {
		for width := 1; width <= 4; width++ {
			one := silent(n)
			one[0] = numbered(1)[0]
			for name, x := range map[string]struct {
				f      impl.Fabric
				rounds int
			}{
				"nothing to say":      {newFabric(t, silent(n), linePairs(n), width), 0},
				"no links":            {newFabric(t, numbered(n), nil, width), 0},
				"from one end":        {newFabric(t, one, linePairs(n), width), n - 1},
				"from both ends":      {newFabric(t, numbered(n), linePairs(n), width), n - 1},
				"from the middle":     {newFabric(t, one, starPairs(n), width), min(n-1, 1)},
				"through the middle":  {newFabric(t, numbered(n), starPairs(n), width), min(n-1, 2)},
				"the other way round": {newFabric(t, reversed(one), linePairs(n), width), n - 1},
			} {
				if _, rounds := checkSettle(t, x.f); rounds != x.rounds {
					t.Error(name, n, rounds)
				}
			}
		}
	}
	f, _ := impl.Clos(2, 2, 4)
	if _, n := checkSettle(t, f); n != 3 {
		t.Error("the example", n)
	}
}

// Two switches that each prefer what the other one announces announce and withdraw in turn, without end. Such tables do not come about by messages.
func TestSettleNever(t *testing.T) {
	p := []impl.Prefix{{Addr: 256, Len: 8}}
	know := func(as int) impl.Node {
		return nodeOf(as, nil, 0, []impl.Entry{entryOf(p[0], 3, impl.Attr{Path: []int{9}})}, nil)
	}
	f := netOf(1, append(numbered(1), know(5), know(6)), linkOf(1, 0, 2, 0))
	got, n := checkSettle(t, f)
	if n != -1 || impl.Settled(got) || len(got.Nodes[1].Rib.L) != 1 || len(got.Nodes[1].Sent.L) != 0 {
		t.Error("after 60 rounds", brief(got), n)
	}
	if next, n := impl.Settle(talked(t, talked(t, f, 1), 2)); n != -1 || len(next.Nodes[1].Rib.L) != 1 {
		t.Error("half a round more", brief(next), n)
	}
	got, _ = impl.Deliver(talked(t, talked(t, f, 1), 2), 0, true)
	if _, n := checkSettle(t, got); n < 0 {
		t.Error("one before the other", n)
	}
}

// Where a switch has room for one route only, it is the one on the first link, and of its end A before its end B.
func TestSettleInOrder(t *testing.T) {
	sender := func(as int) impl.Node { return nodeOf(as, []impl.Prefix{{Addr: 65280, Len: 8}}, 0, nil, nil) }
	full := nodeOf(77, nil, 0, manyEntries(59, 7, 77), manyEntries(60, 7, 0))
	for _, links := range [][]impl.Link{
		{linkOf(0, 0, 1, 0), linkOf(2, 0, 1, 1)}, {linkOf(1, 1, 0, 0), linkOf(2, 0, 1, 0)}, {linkOf(1, 5, 2, 0), linkOf(0, 0, 1, 4)}, {linkOf(2, 0, 1, 6), linkOf(1, 3, 0, 0)},
	} {
		f := netOf(1, []impl.Node{sender(5), full, sender(6)}, links...)
		got, n := checkSettle(t, f)
		iface := links[0].Ai
		if links[0].B == 1 {
			iface = links[0].Bi
		}
		if n != 1 || len(got.Nodes[1].Rib.L) != 60 || len(of(got.Nodes[1].Rib, iface)) != 1 {
			t.Error(links, n, brief(got))
		}
	}
	both := netOf(1, []impl.Node{sender(5), full}, linkOf(1, 2, 0, 2), linkOf(0, 1, 1, 1))
	if got, n := checkSettle(t, both); n != 1 || len(of(got.Nodes[1].Rib, 2)) != 1 {
		t.Error("the same switch twice", n, brief(got))
	}
	room := nodeOf(77, nil, 0, manyEntries(58, 7, 77), nil)
	sent := nodeOf(5, nil, 0, nil, nil)
	f := netOf(1, []impl.Node{room, room, sent}, linkOf(0, 0, 1, 0), linkOf(0, 1, 2, 1))
	f.Links[0].Ab, f.Links[0].Ba = []impl.Msg{update(nil, manyPrefixes(1), impl.Attr{Path: []int{5}})}, []impl.Msg{update(manyPrefixes(1), nil, impl.Attr{}), update(nil, manyPrefixes(3)[1:], impl.Attr{Path: []int{4}})}
	f.Links[1].Ba = []impl.Msg{update(nil, manyPrefixes(1), impl.Attr{Path: []int{6}})}
	checkSettle(t, f)
}

// What is in transit is delivered in the first round; a switch that has no room for what it has to say talks in the second one.
func TestSettleInTransit(t *testing.T) {
	for n := range 502 {
		f := netOf(1, numbered(2), linkOf(0, 0, 1, 0))
		f.Links[0].Ab = repeated(update(manyPrefixes(1), nil, impl.Attr{}), n)
		if n == 501 {
			if got, rounds := impl.Settle(f); rounds != -1 || !isZeroFabric(got) {
				t.Error("not valid")
			}
			continue
		}
		if got, rounds := impl.Settle(f); rounds != 1+n/500 || !impl.Settled(got) || !impl.Synced(got) {
			t.Error(n, rounds)
		}
	}
	f := netOf(1, silent(3), linkOf(0, 0, 1, 0))
	f.Links[0].Ba = []impl.Msg{update(nil, manyPrefixes(1), impl.Attr{Path: []int{9}})}
	if got, n := checkSettle(t, f); n != 1 || len(got.Nodes[0].Rib.L) != 1 || len(got.Links[0].Ba) != 0 {
		t.Error("one message", n, brief(got))
	}
	f.Links = append(f.Links, linkOf(2, 3, 0, 3))
	if got, n := checkSettle(t, f); n != 2 || len(got.Nodes[2].Rib.L) != 1 {
		t.Error("passed on", n, brief(got))
	}
}

// upEnds are the interfaces that have a link that is up, each with the switch and the interface at its other end.
func upEnds(f impl.Fabric) map[[2]int][2]int {
	ends := map[[2]int][2]int{}
	for _, x := range f.Links {
		if x.Up {
			a, b := [2]int{x.A, x.Ai}, [2]int{x.B, x.Bi}
			ends[a], ends[b] = b, a
		}
	}
	return ends
}

func inTransit(f impl.Fabric) int {
	n := 0
	for _, x := range f.Links {
		n += len(x.Ab) + len(x.Ba)
	}
	return n
}

// settledOf is the reference for Settled with a valid fabric.
func settledOf(f impl.Fabric) bool {
	for a := range upEnds(f) {
		if _, l := sayOf(f.Nodes[a[0]], a[1]); len(l) > 0 {
			return false
		}
	}
	return inTransit(f) == 0
}

// syncedOf is the reference for Synced with a valid fabric.
func syncedOf(f impl.Fabric) bool {
	ends := upEnds(f)
	for node, n := range f.Nodes {
		for iface := range 8 {
			far, linked := ends[[2]int{node, iface}]
			if !linked && len(of(n.Rib, iface))+len(of(n.Sent, iface)) > 0 {
				return false
			}
			if linked && !sameEntries(of(n.Rib, iface), importsOf(of(f.Nodes[far[0]].Sent, far[1]), n.As, iface)) {
				return false
			}
		}
	}
	return inTransit(f) == 0
}

func checkStates(t *testing.T, f impl.Fabric) (bool, bool) {
	t.Helper()
	settled, synced := settledOf(f), syncedOf(f)
	if got := impl.Settled(f); got != settled {
		t.Fatal("settled", got, brief(f))
	}
	if got := impl.Synced(f); got != synced {
		t.Fatal("synced", got, brief(f))
	}
	return settled, synced
}

func TestSettledAndSynced(t *testing.T) {
	r := rand.New(rand.NewSource(53))
	seen := map[[2]bool]int{}
	see := func(f impl.Fabric) {
		settled, synced := checkStates(t, f)
		seen[[2]bool{settled, synced}]++
	}
	for _, f := range goodFabrics(t) {
		see(f)
		after, _ := impl.Settle(f)
		see(after)
		for range 3 {
			see(disturb(t, r, after, 3))
		}
	}
	for _, settled := range []bool{false, true} {
		for _, synced := range []bool{false, true} {
			if seen[[2]bool{settled, synced}] < 10 {
				t.Error("few", settled, synced, seen)
			}
		}
	}
	for _, f := range badFabrics() {
		if impl.Settled(f) || impl.Synced(f) {
			t.Fatal("not valid", brief(f))
		}
	}
	for _, f := range []impl.Fabric{netOf(1, silent(1)), netOf(1, numbered(8))} {
		if settled, synced := checkStates(t, f); !settled || !synced {
			t.Error("no links", brief(f))
		}
	}
}

// A valid fabric that is settled and synced is not any more if one thing is wrong; both look at different things.
func TestSettledAndSyncedWrongInOneThing(t *testing.T) {
	f := newFabric(t, numbered(4), [][]int{{0, 1}, {2, 1}, {0, 2}, {2, 0}, {3, 1}}, 2)
	f = settled(t, turned(t, f, 3, false))
	check := func(why string, f impl.Fabric, settled, synced bool) {
		t.Helper()
		if isSettled, isSynced := checkStates(t, f); !impl.FabricOk(f) || isSettled != settled || isSynced != synced {
			t.Error(why, isSettled, isSynced, brief(f))
		}
	}
	check("as it is", f, true, true)
	for _, link := range []int{0, 1, 2, 4} {
		ab, ba, off := copied(f), copied(f), turned(t, f, link, false)
		ab.Links[link].Ab, ba.Links[link].Ba = repeated(update(nil, nil, impl.Attr{}), 1), repeated(plainUpdate(), 1)
		check("a message", ab, false, false)
		check("a message in the other direction", ba, false, false)
		check("off and on", turned(t, off, link, true), false, true)
		off = copied(f)
		off.Links[link].Up = false
		check("a link is down, but not lost", off, true, false)
	}
	check("marked", marked(t, f, 3, true), false, true)
	check("marked and not any more", marked(t, marked(t, f, 3, true), 3, false), true, true)
	for node, n := range f.Nodes {
		for iface := range 8 {
			_, linked := upEnds(f)[[2]int{node, iface}]
			strange := impl.Attr{Path: []int{99}, Pref: 100}
			more := copied(f)
			more.Nodes[node].Rib = tableOf(append(n.Rib.L, entryOf(impl.Prefix{Addr: n.Own[0].Addr, Len: 8}, iface, strange))...)
			check("an entry more", more, true, false)
			more = copied(f)
			more.Nodes[node].Sent = tableOf(append(n.Sent.L, entryOf(impl.Prefix{Addr: 65280, Len: 8}, iface, strange))...)
			check("more was sent", more, !linked, false)
			more.Nodes[node].Sent = tableOf(append(n.Sent.L, entryOf(impl.Prefix{Addr: 65280, Len: 8}, iface, impl.Attr{Path: []int{1, 2, 3, 4}}))...)
			check("more was sent that fails", more, !linked, linked)
		}
		for at, e := range n.Sent.L {
			less := copied(f)
			less.Nodes[node].Sent = without(n.Sent, func(x impl.Entry) bool { return x.Prefix == e.Prefix && x.Peer == e.Peer })
			far := upEnds(f)[[2]int{node, e.Peer}]
			check("less was sent", less, false, slices.Contains(e.Attr.Path, f.Nodes[far[0]].As))
			if at == 0 {
				less.Nodes[node].Sent = impl.Rib{}
				check("nothing was sent", less, false, false)
			}
		}
	}
}

// Each field of what was sent counts, but not its preference; and each field of what is known.
func TestSyncedFields(t *testing.T) {
	f := settled(t, newFabric(t, numbered(2), linePairs(2), 1))
	for _, change := range []func(*impl.Attr){
		func(a *impl.Attr) { a.Path = []int{a.Path[0], 9} }, func(a *impl.Attr) { a.Path = []int{9} }, func(a *impl.Attr) { a.Bw = 1 }, func(a *impl.Attr) { a.Comm = []int{7} }, func(a *impl.Attr) { a.Comm = []int{1000} },
	} {
		for node := range 2 {
			sent, known := copied(f), copied(f)
			sent.Nodes[node].Sent = tableOf(sent.Nodes[node].Sent.L...)
			change(&sent.Nodes[node].Sent.L[0].Attr)
			known.Nodes[node].Rib = tableOf(known.Nodes[node].Rib.L...)
			at := slices.IndexFunc(known.Nodes[node].Rib.L, func(e impl.Entry) bool { return e.Peer == 0 })
			change(&known.Nodes[node].Rib.L[at].Attr)
			for _, g := range []impl.Fabric{sent, known} {
				if _, synced := checkStates(t, g); synced || !impl.FabricOk(g) {
					t.Error("as if equal", g.Nodes)
				}
			}
			known.Nodes[node].Rib.L[at].Attr = f.Nodes[node].Rib.L[at].Attr
			known.Nodes[node].Rib.L[at].Attr.Pref = 99
			sent.Nodes[node].Sent.L[0].Attr = f.Nodes[node].Sent.L[0].Attr
			sent.Nodes[node].Sent.L[0].Attr.Pref = 1
			if impl.Synced(known) || !impl.Synced(sent) || impl.Settled(sent) {
				t.Error("preference", sent.Nodes, known.Nodes)
			}
		}
	}
}

func TestFibAt(t *testing.T) {
	for _, f := range goodFabrics(t) {
		for node, n := range f.Nodes {
			if got, ok := impl.FibAt(f, node); !ok || !sameGroups(got.L, fibOf(n.Rib, f.Width).L) || !impl.FibOk(got) {
				t.Fatal(brief(f), node, got, ok)
			}
		}
	}
	checkRefused(t, nodeIndices, func(f impl.Fabric, at int) bool {
		got, ok := impl.FibAt(f, at)
		return !ok && len(got.L) == 0
	})
	f, _ := impl.Clos(2, 3, 2)
	f = settled(t, f)
	for node, want := range []string{"1.0/8 here\n2.0/8 if0*1 if1*1\n", "1.0/8 if0*1 if1*1\n2.0/8 here\n", "1.0/8 if0*1\n2.0/8 if1*1\n"} {
		if got, ok := impl.FibAt(f, node); !ok || string(impl.FibText(got)) != want {
			t.Error(node, got, ok)
		}
	}
}

// walkOf is the reference for Walk with valid arguments.
func walkOf(f impl.Fabric, node, addr, hash int) ([]int, bool) {
	ends := upEnds(f)
	path := []int{node}
	for {
		g, found := lookupOf(fibOf(f.Nodes[node].Rib, f.Width), addr)
		if !found || len(g.Hops) == 0 {
			return path, found
		}
		next, linked := ends[[2]int{node, pickOf(g, hash)}]
		if !linked {
			return path, false
		}
		node = next[0]
		path = append(path, node)
		if len(path) == 10 {
			return path, false
		}
	}
}

func checkWalk(t *testing.T, f impl.Fabric, node, addr, hash int) ([]int, bool) {
	t.Helper()
	want, arrives := walkOf(f, node, addr, hash)
	got, ok := impl.Walk(f, node, addr, hash)
	if ok != arrives || !slices.Equal(got, want) {
		t.Fatal(brief(f), node, addr, hash, "walked", got, ok, "and not", want, arrives)
	}
	return got, ok
}

// hopsOf is the reference for Hops with valid arguments.
func hopsOf(f impl.Fabric, node, addr int) int {
	longest := -1
	far := map[int][]int{}
	for i, n := range f.Nodes {
		for _, p := range n.Own {
			if bits(addr)[:p.Len] == bits(p.Addr)[:p.Len] {
				longest = max(longest, p.Len)
				far[p.Len] = append(far[p.Len], i)
			}
		}
	}
	best := -1
	for _, owner := range far[longest] {
		if d := distances(f)[node][owner]; d < 100 && (best < 0 || d < best) {
			best = d
		}
	}
	return best
}

// distances are the lengths of the shortest paths between all switches, 100 or more if there is none.
func distances(f impl.Fabric) [][]int {
	var d [][]int
	for i := range f.Nodes {
		row := slices.Repeat([]int{100}, len(f.Nodes))
		row[i] = 0
		d = append(d, row)
	}
	for _, x := range f.Links {
		if x.Up {
			d[x.A][x.B], d[x.B][x.A] = 1, 1
		}
	}
	for k := range d {
		for i := range d {
			for j := range d {
				d[i][j] = min(d[i][j], d[i][k]+d[k][j])
			}
		}
	}
	return d
}

// addrsOf are addresses that own prefixes cover, and those beside them.
func addrsOf(f impl.Fabric) []int {
	l := []int{0, 65535}
	for _, n := range f.Nodes {
		for _, p := range n.Own {
			l = append(l, p.Addr, p.Addr+1<<(16-p.Len)-1, max(p.Addr-1, 0), min(p.Addr+1<<(16-p.Len), 65535))
		}
	}
	slices.Sort(l)
	return slices.Compact(l)
}

func TestWalkAndHops(t *testing.T) {
	r := rand.New(rand.NewSource(54))
	lengths := map[int]int{}
	for _, f := range goodFabrics(t) {
		after, _ := impl.Settle(f)
		for _, g := range []impl.Fabric{f, after} {
			for _, addr := range addrsOf(g) {
				for node := range g.Nodes {
					path, _ := checkWalk(t, g, node, addr, r.Intn(100)-50)
					lengths[len(path)]++
					if got := impl.Hops(g, node, addr); got != hopsOf(g, node, addr) {
						t.Fatal(brief(g), node, addr, got)
					}
				}
			}
			for _, hash := range someHashes()[r.Intn(100):][:20] {
				checkWalk(t, g, r.Intn(len(g.Nodes)), r.Intn(65536), hash)
				checkWalk(t, g, r.Intn(len(g.Nodes)), manyPrefixes(30)[r.Intn(30)].Addr, hash)
			}
		}
	}
	if lengths[1] == 0 || lengths[2] == 0 || lengths[3] == 0 || lengths[6] == 0 {
		t.Error("few lengths", lengths)
	}
}

func TestWalkAndHopsInvalid(t *testing.T) {
	refuses := func(f impl.Fabric, at, addr, hash int) bool {
		path, ok := impl.Walk(f, at, addr, hash)
		return !ok && len(path) == 0 && impl.Hops(f, at, addr) == -1
	}
	checkRefused(t, nodeIndices, func(f impl.Fabric, at int) bool {
		return refuses(f, at, 0, 0) && refuses(f, at, 256, 1) && refuses(f, at, -1, 0)
	})
	f := settled(t, newFabric(t, append(numbered(3), nodeOf(9, []impl.Prefix{{}}, 0, nil, nil)), linePairs(4), 1))
	for _, addr := range badAddrs() {
		for node := range 4 {
			if !refuses(f, node, addr, 0) || !refuses(f, node, addr, 77) {
				t.Error(node, addr)
			}
		}
	}
	for _, addr := range []int{0, 65535, 1024, 32768} {
		if path, ok := checkWalk(t, f, 0, addr, 0); !ok || show(path) != "[0 1 2 3]" || impl.Hops(f, 0, addr) != 3 {
			t.Error(addr, path, ok)
		}
	}
}

func TestWalkExamples(t *testing.T) {
	f := newFabric(t, numbered(4), linePairs(4), 2)
	check := func(why string, f impl.Fabric, node, addr int, want string, arrives bool, hops int) {
		t.Helper()
		if path, ok := checkWalk(t, f, node, addr, 7); show(path) != want || ok != arrives || impl.Hops(f, node, addr) != hops {
			t.Error(why, path, ok, impl.Hops(f, node, addr))
		}
	}
	check("before it has settled", f, 0, 1024, "[0]", false, 3)
	f = settled(t, f)
	check("from one end", f, 0, 1024, "[0 1 2 3]", true, 3)
	check("the last address", f, 1, 1279, "[1 2 3]", true, 2)
	check("one more", f, 1, 1280, "[1]", false, -1)
	check("the first address", f, 3, 256, "[3 2 1 0]", true, 3)
	check("one less", f, 3, 255, "[3]", false, -1)
	check("the own prefix", f, 2, 1023, "[2]", true, 0)
	cut := copied(f)
	cut.Links[1].Up = false
	check("the tables know of a link that is down", cut, 0, 1024, "[0 1]", false, -1)
	check("on this side", cut, 0, 512, "[0 1]", true, 1)
	check("after it is lost", settled(t, turned(t, f, 1, false)), 0, 1024, "[0]", false, -1)
	gone := copied(f)
	gone.Links = gone.Links[:2]
	check("the tables know of a link that does not exist", gone, 0, 1024, "[0 1 2]", false, -1)
	strange := copied(f)
	strange.Nodes[2].Rib = tableOf(append(strange.Nodes[2].Rib.L, entryOf(impl.Prefix{Addr: 1024, Len: 9}, 5, impl.Attr{Path: []int{9}}))...)
	check("a longer prefix leads to nowhere", strange, 0, 1024, "[0 1 2]", false, 3)
	check("the rest of the shorter one", strange, 0, 1152, "[0 1 2 3]", true, 3)
	astray := netOf(1, silent(3), linkOf(0, 3, 1, 4), linkOf(1, 2, 2, 0))
	lead := func(node, iface int) {
		astray.Nodes[node] = nodeOf(node+1, nil, 0, []impl.Entry{entryOf(impl.Prefix{Addr: 256, Len: 8}, iface, impl.Attr{Path: []int{9}})}, nil)
	}
	lead(0, 3)
	check("no entry on the way", astray, 0, 256, "[0 1]", false, -1)
	lead(1, 4)
	check("back and forth", astray, 0, 256, "[0 1 0 1 0 1 0 1 0 1]", false, -1)
	check("back and forth from the other end", astray, 1, 256, "[1 0 1 0 1 0 1 0 1 0]", false, -1)
	check("into it", astray, 2, 256, "[2]", false, -1)
	lead(2, 0)
	check("into it", astray, 2, 256, "[2 1 0 1 0 1 0 1 0 1]", false, -1)
}

// The longest prefix counts, wherever its owner is, and of several owners the nearest one.
func TestHopsExamples(t *testing.T) {
	short, long := impl.Prefix{Addr: 256, Len: 8}, impl.Prefix{Addr: 256, Len: 12}
	nodes := silent(6)
	nodes[0], nodes[2], nodes[4] = nodeOf(1, []impl.Prefix{short}, 0, nil, nil), nodeOf(3, []impl.Prefix{long}, 0, nil, nil), nodeOf(5, []impl.Prefix{short, long}, 0, nil, nil)
	f := newFabric(t, nodes, linePairs(5), 1)
	for addr, want := range map[int][]int{256: {2, 1, 0, 1, 0, -1}, 271: {2, 1, 0, 1, 0, -1}, 272: {0, 1, 2, 1, 0, -1}, 511: {0, 1, 2, 1, 0, -1}, 512: {-1, -1, -1, -1, -1, -1}, 255: {-1, -1, -1, -1, -1, -1}} {
		for node, hops := range want {
			if got := impl.Hops(f, node, addr); got != hops {
				t.Error(addr, node, got)
			}
			if got := impl.Hops(settled(t, f), node, addr); got != hops {
				t.Error("settled", addr, node, got)
			}
		}
	}
	f = turned(t, f, 1, false)
	for node, want := range []int{-1, -1, 0, 1, 0, -1} {
		if got := impl.Hops(f, node, 256); got != want {
			t.Error("the owner of the longest prefix is far", node, got)
		}
	}
	all := silent(8)
	all[7] = nodeOf(8, []impl.Prefix{{}}, 0, nil, nil)
	for node := range 8 {
		if impl.Hops(newFabric(t, all, linePairs(8), 1), node, node*9000) != 7-node || impl.Hops(newFabric(t, all, ringPairs(8), 1), node, 0) != min(7-node, node+1) {
			t.Error("a line or a ring", node)
		}
	}
}
