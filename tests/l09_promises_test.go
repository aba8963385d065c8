package tests

import (
	"math/rand"
	"slices"
	"testing"

	"loop.example/g00557/impl"
)

// checkConverged settles a fabric and requires what promise 11 says of it, by the references as well.
func checkConverged(t *testing.T, f impl.Fabric) impl.Fabric {
	t.Helper()
	g, n := impl.Settle(f)
	if n < 0 || !impl.FabricOk(g) || !impl.Settled(g) || !impl.Synced(g) || !settledOf(g) || !syncedOf(g) {
		t.Fatal("not converged", n, brief(f), brief(g))
	}
	for a := range upEnds(g) {
		if n := g.Nodes[a[0]]; !sameEntries(of(n.Sent, a[1]), wantsOf(n, a[1])) || !impl.Quiet(n, a[1]) {
			t.Fatal("not all is sent", a, brief(f), brief(g))
		}
	}
	return g
}

// graphs visits all sets of pairs of n switches.
func graphs(n int, visit func([][]int)) {
	var all [][]int
	for a := range n {
		for b := range a {
			all = append(all, []int{b, a})
		}
	}
	for chosen := range 1 << len(all) {
		var pairs [][]int
		for i, pair := range all {
			if chosen>>i&1 == 1 {
				pairs = append(pairs, pair)
			}
		}
		visit(pairs)
	}
}

// alike have AS numbers of which many are equal.
func alike(nodes []impl.Node) []impl.Node {
	var l []impl.Node
	for i, n := range nodes {
		l = append(l, nodeOf(50+i%2, n.Own, n.Bw, nil, nil))
	}
	return l
}

func cubePairs() [][]int {
	return [][]int{{0, 1}, {2, 3}, {4, 5}, {6, 7}, {0, 2}, {1, 3}, {4, 6}, {5, 7}, {0, 4}, {1, 5}, {2, 6}, {3, 7}}
}

// largeFabrics are as large as possible in one way or another, and have room for all routes.
func largeFabrics(t *testing.T) []impl.Fabric {
	t.Helper()
	l := []impl.Fabric{newFabric(t, numbered(8), cubePairs(), 3), newFabric(t, numbered(8), starPairs(8), 4), newFabric(t, numbered(8), ringPairs(8), 1)}
	l = append(l, newFabric(t, numbered(8), append(ringPairs(8), cubePairs()[4:8]...), 2), newFabric(t, numbered(2), slices.Repeat([][]int{{0, 1}}, 8), 4))
	l = append(l, newFabric(t, alike(numbered(8)), cubePairs(), 4), newFabric(t, numbered(3), slices.Repeat([][]int{{0, 1}, {1, 2}, {2, 0}}, 4), 2))
	for leaves := 1; leaves <= 7; leaves++ {
		for spines := 1; spines <= 7; spines++ {
			if f, ok := impl.Clos(leaves, spines, 1+leaves%4); ok {
				l = append(l, f)
			}
		}
	}
	return l
}

// Promise 11: fabrics of all shapes converge.
func TestPromise11AllGraphs(t *testing.T) {
	for n := 1; n <= 4; n++ {
		graphs(n, func(pairs [][]int) {
			for width := 1; width <= 4; width++ {
				checkConverged(t, newFabric(t, numbered(n), pairs, width))
				checkConverged(t, newFabric(t, alike(numbered(n)), pairs, width))
			}
		})
	}
	graphs(5, func(pairs [][]int) {
		f := checkConverged(t, newFabric(t, numbered(5), pairs, 2))
		if len(pairs) > 0 {
			checkConverged(t, turned(t, f, len(pairs)/2, false))
			checkConverged(t, marked(t, f, len(pairs)%5, true))
		}
	})
	for _, f := range largeFabrics(t) {
		checkConverged(t, f)
	}
}

// Promise 11: they converge also after links were turned off and on, switches marked and unmarked, and messages delivered or not.
func TestPromise11Disturbed(t *testing.T) {
	r := rand.New(rand.NewSource(60))
	for i := range 300 {
		f := randomBuilt(t, r, [][]impl.Prefix{evenPrefixes(), ribPrefixes()}[i%2], i%3 == 0)
		for range 3 {
			f = disturb(t, r, f, 5+r.Intn(40))
			g := checkConverged(t, f)
			if r.Intn(2) == 0 {
				f = g
			}
		}
	}
	for _, f := range largeFabrics(t) {
		checkConverged(t, disturb(t, r, f, 60))
	}
}

// Promise 11: what was turned or marked and is then as before leads to what was before.
func TestPromise11AsBefore(t *testing.T) {
	r := rand.New(rand.NewSource(61))
	check := func(f, g impl.Fabric) {
		t.Helper()
		if again := checkConverged(t, g); !sameFabric(again, f) {
			t.Fatal("not as before", brief(f), brief(again))
		}
	}
	for i := range 60 {
		f := checkConverged(t, randomBuilt(t, r, evenPrefixes(), i%3 == 0))
		for link := range f.Links {
			off := turned(t, f, link, false)
			check(f, turned(t, off, link, true))
			check(f, turned(t, checkConverged(t, off), link, true))
			check(f, turned(t, talked(t, off, f.Links[link].A), link, true))
		}
		for node := range f.Nodes {
			on := marked(t, f, node, true)
			check(f, marked(t, on, node, false))
			check(f, marked(t, checkConverged(t, on), node, false))
			check(f, marked(t, talked(t, on, node), node, false))
		}
	}
}

// step is something that can happen in a fabric: a switch talks, or a message is delivered.
type step struct {
	node, link int
	ab         bool
}

func stepsOf(f impl.Fabric) []step {
	var l []step
	for node := range f.Nodes {
		l = append(l, step{node: node, link: -1})
	}
	for link := range f.Links {
		l = append(l, step{link: link, ab: true}, step{link: link})
	}
	return l
}

func (s step) take(t *testing.T, f impl.Fabric) (impl.Fabric, bool) {
	t.Helper()
	if s.link >= 0 {
		return impl.Deliver(f, s.link, s.ab)
	}
	was := inTransit(f)
	f = talked(t, f, s.node)
	return f, inTransit(f) > was
}

// Promise 12: all orders in which switches talk and messages are delivered, of small fabrics.
func TestPromise12AllOrders(t *testing.T) {
	one, two, four := silent(3), silent(2), silent(4)
	one[0], two[0], four[0] = numbered(1)[0], numbered(1)[0], numbered(1)[0]
	triangle := [][]int{{0, 1}, {1, 2}, {0, 2}}
	start := checkConverged(t, newFabric(t, numbered(3), triangle, 2))
	clos, _ := impl.Clos(2, 2, 1)
	for name, f := range map[string]impl.Fabric{
		"two switches":        newFabric(t, numbered(2), linePairs(2), 1),
		"two links":           newFabric(t, two, [][]int{{0, 1}, {1, 0}}, 1),
		"a line":              newFabric(t, numbered(3), linePairs(3), 1),
		"a triangle":          newFabric(t, append(numbered(2), impl.Node{As: 9}), triangle, 2),
		"a ring":              newFabric(t, four, ringPairs(4), 2),
		"a leaf-spine fabric": clos,
		"equal AS numbers":    newFabric(t, alike(numbered(3)), triangle, 2),
		"a link is lost":      turned(t, start, 0, false),
		"a link is back":      turned(t, checkConverged(t, turned(t, start, 2, false)), 2, true),
		"a switch is gone":    turned(t, turned(t, start, 0, false), 2, false),
		"a switch is marked":  marked(t, start, 0, true),
		"marked in a ring":    marked(t, checkConverged(t, newFabric(t, four, ringPairs(4), 2)), 1, true),
	} {
		want := checkConverged(t, f)
		seen := map[string]bool{show(f): true}
		open := []impl.Fabric{f}
		for len(open) > 0 {
			g := open[len(open)-1]
			open = open[:len(open)-1]
			moved := false
			for _, s := range stepsOf(g) {
				next, some := s.take(t, g)
				moved = moved || some
				if key := show(next); some && !seen[key] {
					seen[key] = true
					open = append(open, next)
				}
			}
			if moved == impl.Settled(g) || !moved && !sameFabric(g, want) {
				t.Fatal(name, "ends otherwise", moved, brief(g), brief(want))
			}
		}
		t.Log(name, len(seen))
	}
}

// runSteps takes steps until none is left: always the first one that is possible if it is orderly, and else a random one.
func runSteps(t *testing.T, r *rand.Rand, f impl.Fabric, orderly bool) impl.Fabric {
	t.Helper()
	steps := stepsOf(f)
	r.Shuffle(len(steps), func(i, j int) { steps[i], steps[j] = steps[j], steps[i] })
	for range 20000 {
		if !orderly {
			r.Shuffle(len(steps), func(i, j int) { steps[i], steps[j] = steps[j], steps[i] })
		}
		moved := false
		for _, s := range steps {
			if f, moved = s.take(t, f); moved {
				break
			}
		}
		if !moved {
			return f
		}
	}
	t.Fatal("does not end", brief(f))
	return f
}

// Promise 12: many orders of larger fabrics, also after they were disturbed.
func TestPromise12ManyOrders(t *testing.T) {
	r := rand.New(rand.NewSource(62))
	var starts []impl.Fabric
	for i := range 40 {
		starts = append(starts, disturb(t, r, randomBuilt(t, r, [][]impl.Prefix{evenPrefixes(), ribPrefixes()}[i%2], i%3 == 0), r.Intn(30)))
	}
	clos, _ := impl.Clos(3, 2, 4)
	after := checkConverged(t, clos)
	starts = append(starts, clos, turned(t, after, 1, false), marked(t, after, 3, true), newFabric(t, numbered(4), append(ringPairs(4), []int{0, 2}), 1))
	for _, f := range starts {
		want := checkConverged(t, f)
		for i := range 4 {
			if got := runSteps(t, r, f, i%2 == 0); !sameFabric(got, want) || !impl.Settled(got) || !impl.Synced(got) {
				t.Fatal("another result", brief(f), brief(got), brief(want))
			}
		}
	}
}

// Promise 12: it does not matter when switches talk and messages are delivered while links are turned and switches are marked.
func TestPromise12WhileDisturbed(t *testing.T) {
	r := rand.New(rand.NewSource(63))
	for i := range 150 {
		f := randomBuilt(t, r, evenPrefixes(), i%3 == 0)
		if len(f.Links) == 0 {
			continue
		}
		quick, slow := f, f
		for range 6 {
			node, link, up, on := r.Intn(len(f.Nodes)), r.Intn(len(f.Links)), r.Intn(2) == 0, r.Intn(2) == 0
			quick = marked(t, turned(t, settled(t, quick), link, up), node, on)
			for range r.Intn(12) {
				steps := stepsOf(slow)
				slow, _ = steps[r.Intn(len(steps))].take(t, slow)
			}
			slow = turned(t, marked(t, slow, node, on), link, up)
		}
		if got, want := checkConverged(t, slow), checkConverged(t, quick); !sameFabric(got, want) {
			t.Fatal("another result", brief(f), brief(got), brief(want))
		}
	}
}

// checkPath requires that a walk visits no switch twice, goes over links that are up, and ends at an owner of the prefix.
func checkPath(t *testing.T, f impl.Fabric, p impl.Prefix, path []int) {
	t.Helper()
	linked := map[[2]int]bool{}
	for a, b := range upEnds(f) {
		linked[[2]int{a[0], b[0]}] = true
	}
	for i, node := range path {
		if slices.Contains(path[:i], node) || i > 0 && !linked[[2]int{path[i-1], node}] {
			t.Fatal("no path", path, brief(f))
		}
	}
	if !slices.Contains(f.Nodes[path[len(path)-1]].Own, p) {
		t.Fatal("not at the owner", p, path, brief(f))
	}
}

// checkWalks requires what promise 13 says of all walks from all switches to all prefixes of one length. It returns the number of walks that arrive.
func checkWalks(t *testing.T, r *rand.Rand, f impl.Fabric, shortest bool) int {
	t.Helper()
	arrived := 0
	for _, owner := range f.Nodes {
		for _, p := range owner.Own {
			for node := range f.Nodes {
				addr := p.Addr + r.Intn(1<<(16-p.Len))
				_, entry := lookupOf(fibOf(f.Nodes[node].Rib, f.Width), addr)
				path, ok := checkWalk(t, f, node, addr, r.Intn(200)-100)
				hops := impl.Hops(f, node, addr)
				if ok != entry || hops != hopsOf(f, node, addr) {
					t.Fatal("arrives or not", node, addr, path, ok, hops, brief(f))
				}
				if ok {
					arrived++
					checkPath(t, f, p, path)
				}
				if shortest && (ok != (hops >= 0) || ok && len(path) != hops+1) {
					t.Fatal("not the shortest path", node, addr, path, hops, brief(f))
				}
			}
		}
	}
	return arrived
}

// Promise 13: with different AS numbers each walk is as long as the shortest path.
func TestPromise13ShortestPaths(t *testing.T) {
	r := rand.New(rand.NewSource(64))
	arrived := 0
	graphs(4, func(pairs [][]int) {
		for width := 1; width <= 4; width++ {
			arrived += checkWalks(t, r, checkConverged(t, newFabric(t, numbered(4), pairs, width)), true)
		}
	})
	graphs(5, func(pairs [][]int) {
		if r.Intn(4) == 0 {
			arrived += checkWalks(t, r, checkConverged(t, newFabric(t, numbered(5), pairs, 1+len(pairs)%4)), true)
		}
	})
	for range 150 {
		f := disturb(t, r, randomBuilt(t, r, evenPrefixes(), false), r.Intn(60))
		for node := range f.Nodes {
			f = marked(t, f, node, false)
		}
		arrived += checkWalks(t, r, checkConverged(t, f), true)
	}
	if arrived < 5000 {
		t.Error("few walks", arrived)
	}
}

// Promise 13: with equal AS numbers and with marks a walk may be longer, or there may be no entry, but it visits no switch twice and arrives.
func TestPromise13AnyPaths(t *testing.T) {
	r := rand.New(rand.NewSource(65))
	arrived := 0
	for n := 2; n <= 4; n++ {
		graphs(n, func(pairs [][]int) {
			f := checkConverged(t, newFabric(t, alike(numbered(n)), pairs, 1+len(pairs)%4))
			arrived += checkWalks(t, r, f, false) + checkWalks(t, r, checkConverged(t, marked(t, f, len(pairs)%n, true)), false)
		})
	}
	for range 200 {
		f := disturb(t, r, randomBuilt(t, r, evenPrefixes(), true), r.Intn(60))
		arrived += checkWalks(t, r, checkConverged(t, f), false)
	}
	for _, f := range largeFabrics(t)[:7] {
		arrived += checkWalks(t, r, checkConverged(t, f), false)
	}
	if arrived < 3000 {
		t.Error("few walks", arrived)
	}
}

// The guarantee of chapter 9: no switch is visited twice, also with prefixes of several lengths that cover one address.
func TestPromise13NoSwitchTwice(t *testing.T) {
	r := rand.New(rand.NewSource(66))
	nested := []impl.Prefix{{}, {Len: 1}, {Addr: 256, Len: 8}, {Addr: 256, Len: 9}, {Addr: 256, Len: 12}, {Addr: 256, Len: 16}}
	long := 0
	for i := range 300 {
		f := checkConverged(t, disturb(t, r, randomBuilt(t, r, nested, i%3 == 0), r.Intn(40)))
		for node := range f.Nodes {
			for _, addr := range []int{256, 257, 256 + r.Intn(256), r.Intn(65536)} {
				path, ok := checkWalk(t, f, node, addr, r.Intn(100))
				for i := range path {
					if slices.Contains(path[:i], path[i]) {
						t.Fatal("twice", path, brief(f))
					}
				}
				if _, entry := lookupOf(fibOf(f.Nodes[node].Rib, f.Width), addr); entry != ok {
					t.Fatal("does not arrive", path, brief(f))
				}
				if len(path) > 3 {
					long++
				}
			}
		}
	}
	if long < 100 {
		t.Error("few long walks", long)
	}
}

func closSizes(visit func(leaves, spines, width int)) {
	for leaves := 1; leaves <= 7; leaves++ {
		for spines := 1; spines <= 8-leaves; spines++ {
			for width := 1; width <= 4 && leaves*spines <= 12; width++ {
				visit(leaves, spines, width)
			}
		}
	}
}

// groupAt is the group that a switch has for the prefix of a leaf.
func groupAt(t *testing.T, f impl.Fabric, node, leaf int) impl.Group {
	t.Helper()
	table, ok := impl.FibAt(f, node)
	p := impl.Prefix{Addr: 256 * (leaf + 1), Len: 8}
	at := slices.IndexFunc(table.L, func(g impl.Group) bool { return g.Prefix == p })
	if !ok || at < 0 {
		t.Fatal("no group", node, leaf, brief(f))
	}
	return table.L[at]
}

// Promise 14: each leaf forwards to each other one over the first spines, and each spine directly.
func TestPromise14LeafAndSpine(t *testing.T) {
	closSizes(func(leaves, spines, width int) {
		f, ok := impl.Clos(leaves, spines, width)
		if !ok {
			t.Fatal(leaves, spines, width)
		}
		f = checkConverged(t, f)
		for leaf := range leaves {
			for node := range f.Nodes {
				var want []impl.Hop
				for i := range min(width, spines) {
					want = append(want, impl.Hop{If: i, Weight: 1})
				}
				if node == leaf {
					want = nil
				} else if node >= leaves {
					want = []impl.Hop{{If: leaf, Weight: 1}}
				}
				if g := groupAt(t, f, node, leaf); show(g.Hops) != show(want) {
					t.Error(leaves, spines, width, "at", node, "to", leaf, g)
				}
			}
		}
		checkClosWalks(t, f, leaves, func(int) bool { return false })
	})
}

// checkClosWalks requires that each leaf reaches each other one over one spine, and none of those that are out.
func checkClosWalks(t *testing.T, f impl.Fabric, leaves int, out func(int) bool) {
	t.Helper()
	for node := range f.Nodes {
		for leaf := range leaves {
			for hash := range 12 {
				path, ok := impl.Walk(f, node, 256*(leaf+1)+hash, hash)
				length := 3
				if node == leaf {
					length = 1
				} else if node >= leaves {
					length = 2
				}
				if !ok || len(path) != length || path[len(path)-1] != leaf || len(path) == 3 && out(path[1]) {
					t.Fatal(node, leaf, hash, path, ok, brief(f))
				}
			}
		}
	}
}

// Promise 14: no switch forwards through a spine that is marked if another one is not, and every switch that had a path has one.
func TestPromise14Marked(t *testing.T) {
	closSizes(func(leaves, spines, width int) {
		f, _ := impl.Clos(leaves, spines, width)
		before := checkConverged(t, f)
		for chosen := range 1 << spines {
			out := func(node int) bool { return node >= leaves && chosen>>(node-leaves)&1 == 1 && chosen != 1<<spines-1 }
			g, h := before, f
			for i := range spines {
				g, h = marked(t, g, leaves+i, chosen>>i&1 == 1), marked(t, h, leaves+i, chosen>>i&1 == 1)
			}
			g = checkConverged(t, g)
			if !sameFabric(g, checkConverged(t, h)) {
				t.Fatal("marked before", brief(f), brief(g))
			}
			checkNotThrough(t, before, g, out)
			checkClosWalks(t, g, leaves, out)
			for i := range spines {
				g = marked(t, g, leaves+i, false)
			}
			if !sameFabric(checkConverged(t, g), before) {
				t.Fatal("not marked any more", brief(f))
			}
		}
	})
}

// checkNotThrough requires that no hop leads to a switch that is out, and that every switch has a group for each prefix for which it had one.
func checkNotThrough(t *testing.T, before, after impl.Fabric, out func(int) bool) {
	t.Helper()
	ends := upEnds(after)
	for node := range after.Nodes {
		was, _ := impl.FibAt(before, node)
		is, _ := impl.FibAt(after, node)
		if _, gone := impl.Delta(was, is); len(gone) > 0 || len(is.L) != len(was.L) {
			t.Fatal("no path any more", node, gone, brief(after))
		}
		for _, g := range is.L {
			for _, hop := range g.Hops {
				if to := ends[[2]int{node, hop.If}][0]; out(to) && !slices.Contains(after.Nodes[to].Own, g.Prefix) {
					t.Fatal("forwards through", node, to, g, brief(after))
				}
			}
		}
	}
}

// Promise 14 in any fabric: a switch that had a path has one after another switch is marked,
// and it does not forward through that one if it has another path without it.
func TestPromise14AnyFabric(t *testing.T) {
	r := rand.New(rand.NewSource(67))
	avoided := 0
	for range 150 {
		f := randomBuilt(t, r, evenPrefixes(), false)
		before := checkConverged(t, f)
		out := r.Intn(len(f.Nodes))
		after := checkConverged(t, marked(t, before, out, true))
		checkNotThrough(t, before, after, func(int) bool { return false })
		alone := before
		for i, x := range f.Links {
			if x.A == out || x.B == out {
				alone = turned(t, alone, i, false)
			}
		}
		alone = checkConverged(t, alone)
		for node := range f.Nodes {
			is, _ := impl.FibAt(alone, node)
			for _, g := range is.L {
				path, ok := impl.Walk(after, node, g.Prefix.Addr, r.Intn(100))
				if !ok || node != out && slices.Contains(path[:len(path)-1], out) {
					t.Fatal("forwards through", out, path, ok, brief(after))
				}
				if was, _ := impl.Walk(before, node, g.Prefix.Addr, 0); slices.Contains(was, out) && node != out {
					avoided++
				}
			}
		}
	}
	if avoided < 30 {
		t.Error("few paths were through the switch that is marked", avoided)
	}
}

// Promise 9 on the switches of fabrics that have converged.
func TestPromise9InFabrics(t *testing.T) {
	r := rand.New(rand.NewSource(68))
	several := 0
	for i := range 120 {
		f := checkConverged(t, randomBuilt(t, r, ribPrefixes(), i%3 == 0))
		after := checkConverged(t, disturb(t, r, f, 20))
		for node, n := range f.Nodes {
			was, _ := impl.FibAt(f, node)
			is, _ := impl.FibAt(after, node)
			came, gone := impl.Delta(was, is)
			if got := impl.Program(was, came, gone); !sameGroups(got.L, is.L) {
				t.Fatal("the changes do not lead there", brief(f), node, came, gone)
			}
			for _, g := range was.L {
				checkGroup(t, n.Rib, f.Width, g)
				if len(g.Hops) > 1 {
					several++
				}
			}
			for _, addr := range addrsOf(f) {
				want, there := lookupOf(was, addr)
				if g, ok := impl.Lookup(was, addr); ok != there || !sameGroup(g, want) {
					t.Fatal("not the longest prefix", brief(f), node, addr, g)
				}
			}
		}
	}
	if several < 100 {
		t.Error("few groups with several hops", several)
	}
}

// checkGroup requires that the hops are the first interfaces of the best entries, and that each is picked by as many hashes as its weight.
func checkGroup(t *testing.T, table impl.Rib, width int, g impl.Group) {
	t.Helper()
	best := bestOf(table, g.Prefix)
	if best[0].Peer < 0 {
		if len(g.Hops) > 0 {
			t.Fatal("own", g)
		}
		return
	}
	best = best[:min(width, len(best))]
	counts, sum := map[int]int{}, 0
	for _, hop := range g.Hops {
		sum += hop.Weight
	}
	for hash := range sum {
		counts[impl.Pick(g, hash)]++
	}
	for i, e := range best {
		if g.Hops[i].If != e.Peer || counts[e.Peer] != g.Hops[i].Weight {
			t.Fatal(g, best, counts)
		}
	}
	if len(g.Hops) != len(best) || len(counts) != len(best) {
		t.Fatal(g, best, counts)
	}
}

// Promise 10 on the switches of fabrics that have converged: all are valid, and whoever is told anew has exactly that again.
func TestPromise10InFabrics(t *testing.T) {
	r := rand.New(rand.NewSource(69))
	for i := range 120 {
		f := checkConverged(t, disturb(t, r, randomBuilt(t, r, ribPrefixes(), i%3 == 0), 20))
		for a, b := range upEnds(f) {
			n, far := f.Nodes[a[0]], f.Nodes[b[0]]
			if !impl.NodeOk(n) || !impl.Quiet(n, a[1]) {
				t.Fatal(brief(f), a)
			}
			lost, fresh := impl.NodeLost(far, b[1]), impl.NodeLost(n, a[1])
			if !impl.NodeOk(lost) || !impl.NodeOk(fresh) {
				t.Fatal("lost", brief(f), a)
			}
			fresh.Rib = n.Rib
			said, l := impl.NodeSay(fresh, a[1])
			for _, m := range l {
				lost, _ = impl.NodeHear(lost, b[1], m)
			}
			if !sameNode(said, n) || !sameRib(lost.Rib, far.Rib) {
				t.Fatal("told anew", brief(f), a, l)
			}
		}
	}
}

// Without room for all routes a fabric still settles, and walks are still free of loops.
func TestSettledWithoutRoom(t *testing.T) {
	var nodes []impl.Node
	for i := range 8 {
		nodes = append(nodes, nodeOf(i+1, []impl.Prefix{{Addr: 8192 * i, Len: 8}, {Addr: 8192*i + 256, Len: 8}}, 0, nil, nil))
	}
	r := rand.New(rand.NewSource(70))
	for _, pairs := range [][][]int{starPairs(8), append(starPairs(8), linePairs(6)[1:]...), slices.Concat(starPairs(7), starPairs(7))[:8], cubePairs()} {
		f := newFabric(t, nodes, pairs, 2)
		for range 10 {
			g, n := checkSettle(t, f)
			if n < 0 || !impl.Settled(g) {
				t.Fatal(brief(g), n)
			}
			for node := range nodes {
				for i := range 8 {
					path, _ := checkWalk(t, g, node, 8192*i, r.Intn(50))
					for j := range path {
						if slices.Contains(path[:j], path[j]) {
							t.Fatal("twice", path, brief(g))
						}
					}
				}
			}
			f = disturb(t, r, g, 20)
		}
	}
}
