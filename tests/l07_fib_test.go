package tests

import (
	"fmt"
	"maps"
	"math"
	"math/rand"
	"slices"
	"strings"
	"testing"

	"loop.example/g00557/impl"
)

// hopsFrom makes hops of pairs of numbers: If, Weight.
func hopsFrom(pairs ...[2]int) []impl.Hop {
	var l []impl.Hop
	for _, x := range pairs {
		l = append(l, impl.Hop{If: x[0], Weight: x[1]})
	}
	return l
}

func goodHops() [][]impl.Hop {
	return [][]impl.Hop{
		nil, {}, hopsFrom([2]int{0, 1}), hopsFrom([2]int{7, 16}), hopsFrom([2]int{3, 7}), hopsFrom([2]int{3, 8}), hopsFrom([2]int{0, 1}, [2]int{1, 1}), hopsFrom([2]int{0, 16}, [2]int{7, 1}),
		hopsFrom([2]int{1, 3}, [2]int{2, 11}, [2]int{5, 1}), hopsFrom([2]int{0, 5}, [2]int{1, 5}, [2]int{2, 5}), hopsFrom([2]int{0, 1}, [2]int{1, 1}, [2]int{2, 1}, [2]int{3, 1}),
		hopsFrom([2]int{4, 16}, [2]int{5, 16}, [2]int{6, 16}, [2]int{7, 16}), hopsFrom([2]int{0, 13}, [2]int{2, 1}, [2]int{4, 2}, [2]int{6, 3}),
	}
}

// badHops are valid but for one thing: their number, an interface, a weight, or their order.
func badHops() [][]impl.Hop {
	four := func() []impl.Hop { return hopsFrom([2]int{1, 3}, [2]int{2, 11}, [2]int{5, 1}, [2]int{6, 16}) }
	l := [][]impl.Hop{append(four(), impl.Hop{If: 7, Weight: 1}), hopsFrom([2]int{0, 1}, [2]int{1, 1}, [2]int{2, 1}, [2]int{3, 1}, [2]int{4, 1}, [2]int{5, 1}), make([]impl.Hop, 100)}
	for _, n := range append(badPeers(), -1) {
		first, last := four(), four()
		first[0].If, last[3].If = n, n
		l = append(l, []impl.Hop{{If: n, Weight: 1}}, first, last)
	}
	for _, n := range []int{0, -1, -16, 17, 18, 256, 1<<32 + 1, math.MaxInt, math.MinInt} {
		l = append(l, []impl.Hop{{If: 3, Weight: n}})
		for at := range 4 {
			x := four()
			x[at].Weight = n
			l = append(l, x)
		}
	}
	for at := range 3 {
		twice, exchanged, same := four(), four(), four()
		twice[at].If = twice[at+1].If
		exchanged[at].If, exchanged[at+1].If = exchanged[at+1].If, exchanged[at].If
		same[at] = same[at+1]
		l = append(l, twice, exchanged, same)
	}
	return l
}

func badGroups() []impl.Group {
	var l []impl.Group
	for _, p := range badPrefixes() {
		l = append(l, impl.Group{Prefix: p}, impl.Group{Prefix: p, Hops: goodHops()[8]})
	}
	for _, hops := range badHops() {
		l = append(l, impl.Group{Prefix: impl.Prefix{Addr: 256, Len: 8}, Hops: hops})
	}
	return l
}

// wayTable has n groups, ascending, of some that lie inside of others and some that do not.
func wayTable(n int) impl.Fib {
	var f impl.Fib
	hops := goodHops()
	for i, p := range manyPrefixes(n) {
		f.L = append(f.L, impl.Group{Prefix: p, Hops: slices.Clone(hops[i%len(hops)])})
	}
	return f
}

func randomHops(r *rand.Rand) []impl.Hop {
	var l []impl.Hop
	for _, n := range slices.Sorted(slices.Values(r.Perm(8)[:r.Intn(5)])) {
		l = append(l, impl.Hop{If: n, Weight: 1 + r.Intn(16)})
	}
	return l
}

// randomWays has some of these prefixes, with any hops.
func randomWays(r *rand.Rand, from []impl.Prefix) impl.Fib {
	var f impl.Fib
	for _, p := range somePlaces(r, from, min(60, len(from))) {
		f.L = append(f.L, impl.Group{Prefix: p, Hops: randomHops(r)})
	}
	return f
}

// changedWays differs from a table in few groups: in one weight, in the hops, or in the prefix.
func changedWays(r *rand.Rand, f impl.Fib) impl.Fib {
	held := groupsByPlace(f.L)
	for range 1 + r.Intn(4) {
		if len(f.L) == 0 {
			break
		}
		g := f.L[r.Intn(len(f.L))]
		switch r.Intn(4) {
		case 0:
			delete(held, groupPlace(g))
		case 1:
			g.Hops = randomHops(r)
			held[groupPlace(g)] = g
		case 2:
			if len(g.Hops) > 0 {
				g.Hops = slices.Clone(g.Hops)
				g.Hops[r.Intn(len(g.Hops))].Weight = 1 + r.Intn(16)
				held[groupPlace(g)] = g
			}
		case 3:
			delete(held, groupPlace(g))
			prefixes := ribPrefixes()
			g.Prefix = prefixes[r.Intn(len(prefixes))]
			held[groupPlace(g)] = g
		}
	}
	return inOrder(held)
}

// groupPlace is the reference for the order of valid groups: numbers that are in the same order.
func groupPlace(g impl.Group) int {
	return g.Prefix.Addr*100 + g.Prefix.Len
}

func groupsByPlace(l []impl.Group) map[int]impl.Group {
	held := map[int]impl.Group{}
	for _, g := range l {
		held[groupPlace(g)] = g
	}
	return held
}

func inOrder(held map[int]impl.Group) impl.Fib {
	var f impl.Fib
	for _, k := range slices.Sorted(maps.Keys(held)) {
		f.L = append(f.L, held[k])
	}
	return f
}

func goodFibs() []impl.Fib {
	l := []impl.Fib{{}, {L: []impl.Group{}}, {L: []impl.Group{{}}}, {L: []impl.Group{{Hops: []impl.Hop{}}}}, {L: []impl.Group{{Prefix: impl.Prefix{Addr: 65535, Len: 16}}}}}
	for _, n := range []int{1, 2, 3, 20, 59, 60} {
		l = append(l, wayTable(n))
	}
	var nested impl.Fib
	for i, p := range around(0) {
		nested.L = append(nested.L, impl.Group{Prefix: p, Hops: goodHops()[i%len(goodHops())]})
	}
	l = append(l, nested)
	r := rand.New(rand.NewSource(30))
	for range 40 {
		l = append(l, randomWays(r, ribPrefixes()), randomWays(r, manyPrefixes(60)))
	}
	return l
}

// badFibs are valid but for one thing: a group, their number, or their order (by address and by length alone).
func badFibs() []impl.Fib {
	l := []impl.Fib{wayTable(61), wayTable(62), wayTable(700), {L: make([]impl.Group, 2)}}
	for _, g := range badGroups() {
		l = append(l, impl.Fib{L: []impl.Group{g}})
		for _, at := range []int{0, 4, 19} {
			x := wayTable(20)
			x.L[at] = g
			l = append(l, x)
		}
	}
	for at := range 19 {
		twice, exchanged := wayTable(20), wayTable(20)
		twice.L[at+1].Prefix = twice.L[at].Prefix
		exchanged.L[at], exchanged.L[at+1] = exchanged.L[at+1], exchanged.L[at]
		l = append(l, twice, exchanged)
	}
	return l
}

func sameGroup(a, b impl.Group) bool {
	return a.Prefix == b.Prefix && slices.Equal(a.Hops, b.Hops)
}

func sameGroups(a, b []impl.Group) bool {
	return slices.EqualFunc(a, b, sameGroup)
}

func isZeroGroup(g impl.Group) bool {
	return sameGroup(g, impl.Group{})
}

// checkValidity is for functions that report whether a value is valid.
func checkValidity[T any](t *testing.T, ok func(T) bool, good, bad []T) {
	t.Helper()
	for _, x := range good {
		if !ok(x) {
			t.Error("valid", x)
		}
	}
	for _, x := range bad {
		if ok(x) {
			t.Error("not valid", x)
		}
	}
}

func TestGroupOk(t *testing.T) {
	var good []impl.Group
	for _, hops := range goodHops() {
		for _, p := range slices.Concat(ribPrefixes(), around(0x5555)) {
			good = append(good, impl.Group{Prefix: p, Hops: hops})
		}
	}
	checkValidity(t, impl.GroupOk, good, badGroups())
}

func TestGroupOkEveryNumber(t *testing.T) {
	for n := -300; n < 300; n++ {
		for _, other := range []int{-1, 8} {
			if impl.GroupOk(impl.Group{Hops: hopsFrom([2]int{other, 3}, [2]int{n, 1})}) || impl.GroupOk(impl.Group{Hops: hopsFrom([2]int{n, 3}, [2]int{other, 1})}) {
				t.Error("other interface", other, n)
			}
		}
		for at := range 8 {
			two := []impl.Hop{{If: at, Weight: 2}, {If: n, Weight: 1}}
			if impl.GroupOk(impl.Group{Hops: two}) != (n > at && n < 8) || impl.GroupOk(impl.Group{Hops: two[1:]}) != (n >= 0 && n < 8) {
				t.Error("interface", at, n)
			}
			two[1].If, two[0].Weight = at+1, n
			if impl.GroupOk(impl.Group{Hops: two}) != (n >= 1 && n <= 16 && at < 7) || impl.GroupOk(impl.Group{Hops: two[:1]}) != (n >= 1 && n <= 16) {
				t.Error("weight", at, n)
			}
		}
	}
}

// Every list of four interfaces, and its beginnings: valid exactly if it is ascending.
func TestGroupOkOrder(t *testing.T) {
	for n := range 8 * 8 * 8 * 8 {
		ifs := []int{n % 8, n / 8 % 8, n / 64 % 8, n / 512}
		var hops []impl.Hop
		ascending := true
		for i, x := range ifs {
			hops = append(hops, impl.Hop{If: x, Weight: 1 + i})
			ascending = ascending && (i == 0 || ifs[i-1] < x)
			if impl.GroupOk(impl.Group{Hops: hops}) != ascending {
				t.Fatal(hops)
			}
		}
	}
}

func TestFibOk(t *testing.T) {
	checkValidity(t, impl.FibOk, goodFibs(), badFibs())
	for n := range 64 {
		if impl.FibOk(wayTable(n)) != (n <= 60) {
			t.Error("number of groups", n)
		}
	}
}

// Three groups are valid exactly if they are in the order of their places.
func TestFibOkOrder(t *testing.T) {
	for i, p := range ribPrefixes() {
		for j, q := range ribPrefixes() {
			for k, s := range ribPrefixes() {
				f := impl.Fib{L: []impl.Group{{Prefix: p, Hops: goodHops()[2]}, {Prefix: q}, {Prefix: s, Hops: goodHops()[3]}}}
				if impl.FibOk(f) != (i < j && j < k) || impl.FibOk(impl.Fib{L: f.L[:2]}) != (i < j) {
					t.Fatal(f)
				}
			}
		}
	}
}

// weightsOf is the reference for Weights with valid arguments: it counts how often the sum fits.
func weightsOf(bws []int) []int {
	sum := 0
	for _, n := range bws {
		sum += n
	}
	var l []int
	for _, n := range bws {
		weight := 0
		for !slices.Contains(bws, 0) && (weight+1)*sum <= 16*n {
			weight++
		}
		l = append(l, max(weight, 1))
	}
	return l
}

func checkWeights(t *testing.T, bws ...int) {
	t.Helper()
	if got := impl.Weights(bws); !slices.Equal(got, weightsOf(bws)) {
		t.Fatal(bws, got)
	}
}

func randomBws(r *rand.Rand, n int) []int {
	var l []int
	most := []int{2, 20, 100, 1001}[r.Intn(4)]
	for range n {
		l = append(l, r.Intn(most))
		if r.Intn(8) == 0 {
			l[len(l)-1] = []int{0, 1, 15, 16, 17, 999, 1000}[r.Intn(7)]
		}
	}
	return l
}

func TestWeights(t *testing.T) {
	checkWeights(t)
	for n := range 1001 {
		checkWeights(t, n)
		for _, other := range []int{0, 1, 2, 3, 16, 500, 999, 1000} {
			checkWeights(t, n, other)
			checkWeights(t, other, 1, n)
			checkWeights(t, other, n, 1000, 1000)
		}
	}
	for n := range 20 * 20 * 20 {
		checkWeights(t, n%20, n/20%20, n/400)
	}
	r := rand.New(rand.NewSource(31))
	for range 50000 {
		checkWeights(t, randomBws(r, r.Intn(5))...)
	}
}

func TestWeightsExamples(t *testing.T) {
	for _, x := range []struct{ bws, weights []int }{
		{nil, nil},
		{[]int{10, 30, 1}, []int{3, 11, 1}},
		{[]int{0}, []int{1}},
		{[]int{1}, []int{16}},
		{[]int{1000}, []int{16}},
		{[]int{0, 0}, []int{1, 1}},
		{[]int{0, 1000}, []int{1, 1}},
		{[]int{1000, 0}, []int{1, 1}},
		{[]int{10, 30, 0}, []int{1, 1, 1}},
		{[]int{0, 30, 10, 20}, []int{1, 1, 1, 1}},
		{[]int{7, 7}, []int{8, 8}},
		{[]int{7, 7, 7}, []int{5, 5, 5}},
		{[]int{7, 7, 7, 7}, []int{4, 4, 4, 4}},
		{[]int{1000, 1000, 1000, 1000}, []int{4, 4, 4, 4}},
		{[]int{1, 1, 1, 1}, []int{4, 4, 4, 4}},
		{[]int{1, 1000}, []int{1, 15}},
		{[]int{1, 15}, []int{1, 15}},
		{[]int{15, 1}, []int{15, 1}},
		{[]int{1, 16}, []int{1, 15}},
		{[]int{2, 30}, []int{1, 15}},
		{[]int{3, 29}, []int{1, 14}},
		{[]int{4, 28}, []int{2, 14}},
		{[]int{1, 1000, 1, 1}, []int{1, 15, 1, 1}},
		{[]int{100, 200, 300, 400}, []int{1, 3, 4, 6}},
	} {
		if got := impl.Weights(x.bws); !slices.Equal(got, x.weights) {
			t.Error(x.bws, got)
		}
	}
}

func TestWeightsInvalid(t *testing.T) {
	for _, l := range [][]int{{10, 30, 1, 5, 6}, {0, 0, 0, 0, 0}, {1, 1, 1, 1, 1}, {0, 1, 2, 3, 4, 5}, make([]int, 100), {0, 1, 2, 3, -1}} {
		if got := impl.Weights(l); len(got) > 0 {
			t.Error(l, got)
		}
	}
	for _, n := range []int{-1, -2, -1000, 1001, 1002, 65535, 1 << 32, 1<<32 + 10, math.MaxInt, math.MinInt} {
		for _, l := range [][]int{{n}, {n, 10}, {10, n}, {0, n}, {n, 0}, {0, 5, n}, {n, 1, 2, 3}, {1, n, 0, 3}, {1, 2, 3, n}, {n, n}, {n, -n}} {
			if got := impl.Weights(l); len(got) > 0 {
				t.Error(l, got)
			}
		}
	}
}

// Promise 9: bandwidths are converted to weights: at least 1 each, none smaller than that of a smaller bandwidth, and not much more than FullWeight in all.
func TestPromise9Weights(t *testing.T) {
	r := rand.New(rand.NewSource(32))
	for range 50000 {
		bws := randomBws(r, r.Intn(5))
		l := impl.Weights(bws)
		if len(l) != len(bws) {
			t.Fatal(bws, l)
		}
		sum := 0
		for i, n := range l {
			sum += n
			for j, other := range l {
				if n < 1 || n > impl.FullWeight || bws[i] > bws[j] && n < other || bws[i] == bws[j] && n != other {
					t.Fatal(bws, l)
				}
			}
		}
		if sum > impl.FullWeight+len(l) {
			t.Fatal("sum", bws, l)
		}
	}
}

// fibOf is the reference for FibOf with valid arguments.
func fibOf(r impl.Rib, width int) impl.Fib {
	var f impl.Fib
	for _, p := range prefixesOf(r) {
		g := impl.Group{Prefix: p}
		best := bestOf(r, p)
		if !slices.ContainsFunc(best, func(e impl.Entry) bool { return e.Peer == -1 }) {
			var bws []int
			for i := 0; i < width && i < len(best); i++ {
				bws = append(bws, best[i].Attr.Bw)
			}
			for i, weight := range weightsOf(bws) {
				g.Hops = append(g.Hops, impl.Hop{If: best[i].Peer, Weight: weight})
			}
		}
		f.L = append(f.L, g)
	}
	return f
}

// evenTable has few ranks, so that many entries are best, with any bandwidths.
func evenTable(r *rand.Rand) impl.Rib {
	prefixes := ribPrefixes()
	var l []impl.Entry
	for range r.Intn(60) {
		a := impl.Attr{Path: []int{5 + r.Intn(3)}, Pref: 100, Bw: randomBws(r, 1)[0]}
		if r.Intn(4) == 0 {
			a.Path = append(a.Path, 9)
		}
		l = append(l, entryOf(prefixes[r.Intn(8)], max(r.Intn(24)%9-1, r.Intn(3)-1), a))
	}
	return tableOf(l...)
}

func someTables() []impl.Rib {
	l := goodRibs()
	r := rand.New(rand.NewSource(33))
	for range 1000 {
		l = append(l, evenTable(r))
	}
	return l
}

func TestFibOf(t *testing.T) {
	for _, r := range someTables() {
		for width := 1; width <= 4; width++ {
			if got, ok := impl.FibOf(r, width); !ok || !sameGroups(got.L, fibOf(r, width).L) || !impl.FibOk(got) {
				t.Fatal(r, width, got, ok)
			}
		}
	}
}

func TestFibOfExamples(t *testing.T) {
	p := impl.Prefix{Addr: 256, Len: 8}
	entry := func(peer, bw int, path ...int) impl.Entry {
		return entryOf(p, peer, impl.Attr{Path: path, Pref: 100, Bw: bw})
	}
	all := []impl.Entry{entry(0, 10, 9), entry(1, 30, 8), entry(2, 1, 7), entry(3, 5, 6, 6), entry(5, 41, 5), entry(6, 0, 4)}
	for _, x := range []struct {
		l     []impl.Entry
		width int
		text  string
	}{
		{nil, 4, ""},
		{all, 1, "1.0/8 if0*16\n"},
		{all, 2, "1.0/8 if0*4 if1*12\n"},
		{all, 3, "1.0/8 if0*3 if1*11 if2*1\n"},
		{all, 4, "1.0/8 if0*1 if1*5 if2*1 if5*8\n"},
		{all[1:], 4, "1.0/8 if1*1 if2*1 if5*1 if6*1\n"},
		{all[2:], 2, "1.0/8 if2*1 if5*15\n"},
		{all[2:], 3, "1.0/8 if2*1 if5*1 if6*1\n"},
		{all[3:4], 4, "1.0/8 if3*16\n"},
		{all[2:4], 4, "1.0/8 if2*16\n"},
		{all[5:], 4, "1.0/8 if6*1\n"},
		{[]impl.Entry{entry(-1, 7)}, 4, "1.0/8 here\n"},
		{append([]impl.Entry{entry(-1, 7)}, all...), 4, "1.0/8 here\n"},
		{append([]impl.Entry{entry(-1, 7, 3)}, all...), 4, "1.0/8 here\n"},
		{append([]impl.Entry{entry(-1, 7, 3, 3)}, all...), 2, "1.0/8 if0*4 if1*12\n"},
		{[]impl.Entry{entry(-1, 7), entryOf(p, 4, impl.Attr{Pref: 101, Bw: 3})}, 3, "1.0/8 if4*16\n"},
	} {
		r := tableOf(x.l...)
		got, ok := impl.FibOf(r, x.width)
		if text := string(impl.FibText(got)); !ok || text != x.text {
			t.Error(x, text, ok)
		}
		// The entries of other prefixes do not matter.
		r = tableOf(append(slices.Clone(x.l), entryOf(impl.Prefix{Len: 8}, -1, impl.Attr{}), entryOf(impl.Prefix{Addr: 256, Len: 9}, 4, impl.Attr{Pref: 1000}))...)
		got, ok = impl.FibOf(r, x.width)
		if text := string(impl.FibText(got)); !ok || text != "0.0/8 here\n"+x.text+"1.0/9 if4*1\n" {
			t.Error(x, text, ok)
		}
	}
}

func TestFibOfInvalid(t *testing.T) {
	for _, r := range badRibs() {
		for width := 1; width <= 4; width++ {
			if got, ok := impl.FibOf(r, width); ok || len(got.L) > 0 {
				t.Fatal(r, width, got, ok)
			}
		}
	}
	for _, r := range []impl.Rib{{}, tallTable(20), wideTable(60, 3), wideTable(61, 3)} {
		for _, width := range []int{0, -1, -4, 5, 6, 100, 1<<32 + 1, math.MaxInt, math.MinInt} {
			if got, ok := impl.FibOf(r, width); ok || len(got.L) > 0 {
				t.Fatal(r, width, got, ok)
			}
		}
	}
}

// Promise 9: hops are the first interfaces of the best entries; own prefixes have no hops.
func TestPromise9FirstInterfaces(t *testing.T) {
	for _, r := range someTables() {
		for width := 1; width <= impl.MaxWidth; width++ {
			f, ok := impl.FibOf(r, width)
			prefixes := impl.RibPrefixes(r)
			if !ok || len(f.L) != len(prefixes) {
				t.Fatal(r, f, ok)
			}
			for i, g := range f.L {
				best := impl.Best(r, prefixes[i])
				own := best[0].Peer == -1
				if g.Prefix != prefixes[i] || own && len(g.Hops) > 0 || !own && len(g.Hops) != min(width, len(best)) {
					t.Fatal(r, width, g)
				}
				var bws, weights []int
				for j, h := range g.Hops {
					if h.If != best[j].Peer {
						t.Fatal("interface", r, width, g)
					}
					bws, weights = append(bws, best[j].Attr.Bw), append(weights, h.Weight)
				}
				if !slices.Equal(impl.Weights(bws), weights) {
					t.Fatal("weights", r, width, g)
				}
			}
		}
	}
}

// lookupOf is the reference for Lookup with a valid table and address.
func lookupOf(f impl.Fib, addr int) (impl.Group, bool) {
	var found impl.Group
	ok := false
	for n := range 17 {
		for _, g := range f.L {
			if g.Prefix.Len == n && strings.HasPrefix(bits(addr), bits(g.Prefix.Addr)[:n]) {
				found, ok = g, true
			}
		}
	}
	return found, ok
}

func TestLookup(t *testing.T) {
	for _, f := range goodFibs() {
		addrs := someAddrs()
		for _, g := range f.L {
			addrs = append(addrs, g.Prefix.Addr, max(g.Prefix.Addr-1, 0), g.Prefix.Addr+1<<(16-g.Prefix.Len)-1)
		}
		for _, addr := range addrs {
			want, fine := lookupOf(f, addr)
			if got, ok := impl.Lookup(f, addr); ok != fine || !sameGroup(got, want) {
				t.Fatal(f, addr, got, ok)
			}
		}
	}
}

func TestLookupExamples(t *testing.T) {
	hops := goodHops()
	group := func(addr, length int) impl.Group {
		return impl.Group{Prefix: impl.Prefix{Addr: addr, Len: length}, Hops: hops[2+length%8]}
	}
	l := []impl.Group{group(256, 8), group(256, 9), group(256, 16), group(320, 10), group(384, 9), group(512, 7), group(512, 8)}
	all := impl.Fib{L: append([]impl.Group{group(0, 0)}, l...)}
	for addr, prefix := range map[int]string{
		0: "0.0/0", 255: "0.0/0", 256: "1.0/16", 257: "1.0/9", 319: "1.0/9", 320: "1.64/10", 383: "1.64/10", 384: "1.128/9", 511: "1.128/9", 512: "2.0/8", 767: "2.0/8", 768: "2.0/7",
		1023: "2.0/7", 1024: "0.0/0", 32768: "0.0/0", 65535: "0.0/0",
	} {
		got, ok := impl.Lookup(all, addr)
		if !ok || string(impl.PrefixText(got.Prefix)) != prefix || !sameGroup(got, group(got.Prefix.Addr, got.Prefix.Len)) {
			t.Error(addr, got, ok)
		}
		got, ok = impl.Lookup(impl.Fib{L: l}, addr)
		if none := prefix == "0.0/0"; ok == none || none && !isZeroGroup(got) || !none && string(impl.PrefixText(got.Prefix)) != prefix {
			t.Error("without 0.0/0", addr, got, ok)
		}
	}
	for _, addr := range badAddrs() {
		if got, ok := impl.Lookup(all, addr); ok || !isZeroGroup(got) {
			t.Error(addr, got, ok)
		}
	}
}

func TestLookupInvalid(t *testing.T) {
	for _, f := range badFibs() {
		for _, addr := range []int{0, 255, 256, 384, 1024, 65535, f.L[0].Prefix.Addr, f.L[len(f.L)-1].Prefix.Addr} {
			if got, ok := impl.Lookup(f, addr); ok || !isZeroGroup(got) {
				t.Fatal(f, addr, got, ok)
			}
		}
	}
}

// Promise 9: the group that is found covers the address, and no longer prefix that covers it is in the table.
func TestPromise9LongestPrefix(t *testing.T) {
	for _, f := range goodFibs() {
		for addr := 0; addr < 65536; addr += 61 {
			got, ok := impl.Lookup(f, addr)
			there := ok && slices.ContainsFunc(f.L, func(g impl.Group) bool { return sameGroup(g, got) })
			if ok && (!there || !impl.Covers(got.Prefix, addr)) {
				t.Fatal(f, addr, got)
			}
			for _, g := range f.L {
				if impl.Covers(g.Prefix, addr) && (!ok || g.Prefix.Len > got.Prefix.Len) {
					t.Fatal("longer", f, addr, got, g)
				}
			}
		}
	}
}

// pickOf is the reference for Pick with a valid group: each interface as often as its weight.
func pickOf(g impl.Group, hash int) int {
	var l []int
	for _, h := range g.Hops {
		l = append(l, slices.Repeat([]int{h.If}, h.Weight)...)
	}
	if len(l) == 0 {
		return -1
	}
	return l[int(uint16(hash))%len(l)]
}

func someHashes() []int {
	l := []int{32767, 32768, 65534, 65535, 65536, 65537, 65538, 131071, 131072, 1<<17 + 5, 1 << 31, 1<<32 + 3, 1<<48 + 9, math.MaxInt, math.MaxInt - 1, math.MinInt, math.MinInt + 1}
	for n := -70; n <= 70; n++ {
		l = append(l, n, 65536*n+n*n)
	}
	r := rand.New(rand.NewSource(34))
	for range 30 {
		l = append(l, r.Intn(65536), int(r.Uint64()))
	}
	return l
}

func TestPick(t *testing.T) {
	r := rand.New(rand.NewSource(35))
	groups := goodHops()
	for range 300 {
		groups = append(groups, randomHops(r))
	}
	for _, hops := range groups {
		g := impl.Group{Prefix: impl.Prefix{Addr: 256, Len: 8}, Hops: hops}
		for _, hash := range someHashes() {
			if got := impl.Pick(g, hash); got != pickOf(g, hash) {
				t.Fatal(g, hash, got)
			}
		}
	}
	for hash := range 65536 {
		g := impl.Group{Hops: goodHops()[8+hash%5]}
		if got := impl.Pick(g, hash); got != pickOf(g, hash) {
			t.Fatal(g, hash, got)
		}
	}
}

func TestPickExamples(t *testing.T) {
	g := impl.Group{Hops: hopsFrom([2]int{1, 3}, [2]int{4, 11}, [2]int{6, 1})}
	for hash, iface := range map[int]int{
		0: 1, 2: 1, 3: 4, 13: 4, 14: 6, 15: 1, 17: 1, 18: 4, 29: 6, 65534: 6, 65535: 1, 65536: 1, 65536 + 3: 4, 65536*7 + 14: 6, -1: 1, -2: 6, -3: 4, -12: 4, -13: 4, -14: 1, -16: 1, -17: 6, -65536: 1, -65536 + 14: 6,
	} {
		if got := impl.Pick(g, hash); got != iface {
			t.Error(hash, got)
		}
	}
	for _, x := range goodHops()[:2] {
		if got := impl.Pick(impl.Group{Hops: x}, 5); got != -1 {
			t.Error(got)
		}
	}
}

func TestPickInvalid(t *testing.T) {
	for _, g := range badGroups() {
		for _, hash := range []int{-1, 0, 1, 15, 65536} {
			if got := impl.Pick(g, hash); got != -1 {
				t.Fatal(g, hash, got)
			}
		}
	}
}

// Promise 9: each hop is picked by as many of the hashes 0 to the sum of the weights less 1 as its weight.
func TestPromise9PickedByWeight(t *testing.T) {
	check := func(f impl.Fib) {
		t.Helper()
		for _, g := range f.L {
			sum := 0
			for _, h := range g.Hops {
				sum += h.Weight
			}
			picked := map[int]int{}
			for hash := range sum {
				picked[impl.Pick(g, hash)]++
			}
			for _, h := range g.Hops {
				if picked[h.If] != h.Weight {
					t.Fatal(g, picked)
				}
			}
			if len(picked) != len(g.Hops) {
				t.Fatal("another interface", g, picked)
			}
		}
	}
	for _, f := range goodFibs() {
		check(f)
	}
	for _, r := range someTables()[:200] {
		for width := 1; width <= 4; width++ {
			f, _ := impl.FibOf(r, width)
			check(f)
		}
	}
}

// deltaOf is the reference for Delta with valid tables.
func deltaOf(a, b impl.Fib) ([]impl.Group, []impl.Prefix) {
	before, after := groupsByPlace(a.L), groupsByPlace(b.L)
	var came []impl.Group
	var gone []impl.Prefix
	for _, g := range b.L {
		if old, there := before[groupPlace(g)]; !there || show(old) != show(g) {
			came = append(came, g)
		}
	}
	for _, g := range a.L {
		if _, there := after[groupPlace(g)]; !there {
			gone = append(gone, g.Prefix)
		}
	}
	return came, gone
}

// fibPairs are tables with much in common, and ones with little.
func fibPairs() [][2]impl.Fib {
	var l [][2]impl.Fib
	fibs := goodFibs()
	for i := range fibs {
		for j := range fibs {
			if i < 16 || j < 16 || (i+j)%5 == 0 {
				l = append(l, [2]impl.Fib{fibs[i], fibs[j]})
			}
		}
	}
	r := rand.New(rand.NewSource(36))
	for range 1000 {
		a := randomWays(r, ribPrefixes())
		l = append(l, [2]impl.Fib{a, changedWays(r, a)})
	}
	return l
}

func TestDelta(t *testing.T) {
	for _, x := range fibPairs() {
		wantCame, wantGone := deltaOf(x[0], x[1])
		if came, gone := impl.Delta(x[0], x[1]); !sameGroups(came, wantCame) || !slices.Equal(gone, wantGone) {
			t.Fatal(x, came, gone)
		}
	}
}

func TestDeltaExamples(t *testing.T) {
	p, q, s := impl.Prefix{Addr: 256, Len: 8}, impl.Prefix{Addr: 256, Len: 9}, impl.Prefix{Addr: 512, Len: 8}
	fib := func(l ...impl.Group) impl.Fib { return impl.Fib{L: l} }
	group := func(p impl.Prefix, pairs ...[2]int) impl.Group {
		return impl.Group{Prefix: p, Hops: hopsFrom(pairs...)}
	}
	old := fib(group(p, [2]int{1, 3}, [2]int{2, 5}), group(q))
	for name, x := range map[string]struct {
		a, b       impl.Fib
		came, gone string
	}{
		"equal":         {old, old, "[]", "[]"},
		"nothing":       {fib(), fib(), "[]", "[]"},
		"all came":      {fib(), old, "[{{256 8} [{1 3} {2 5}]} {{256 9} []}]", "[]"},
		"all gone":      {old, fib(), "[]", "[{256 8} {256 9}]"},
		"first weight":  {old, fib(group(p, [2]int{1, 4}, [2]int{2, 5}), group(q)), "[{{256 8} [{1 4} {2 5}]}]", "[]"},
		"second weight": {old, fib(group(p, [2]int{1, 3}, [2]int{2, 4}), group(q)), "[{{256 8} [{1 3} {2 4}]}]", "[]"},
		"interface":     {old, fib(group(p, [2]int{0, 3}, [2]int{2, 5}), group(q)), "[{{256 8} [{0 3} {2 5}]}]", "[]"},
		"one hop less":  {old, fib(group(p, [2]int{1, 3}), group(q)), "[{{256 8} [{1 3}]}]", "[]"},
		"one hop more":  {old, fib(group(p, [2]int{1, 3}, [2]int{2, 5}, [2]int{3, 1}), group(q)), "[{{256 8} [{1 3} {2 5} {3 1}]}]", "[]"},
		"no hops now":   {old, fib(group(p), group(q)), "[{{256 8} []}]", "[]"},
		"hops now":      {old, fib(group(p, [2]int{1, 3}, [2]int{2, 5}), group(q, [2]int{7, 16})), "[{{256 9} [{7 16}]}]", "[]"},
		"prefix":        {old, fib(group(p, [2]int{1, 3}, [2]int{2, 5}), group(s)), "[{{512 8} []}]", "[{256 9}]"},
		"hops of both":  {old, fib(group(p), group(q, [2]int{1, 3}, [2]int{2, 5})), "[{{256 8} []} {{256 9} [{1 3} {2 5}]}]", "[]"},
		"all different": {old, fib(group(s, [2]int{1, 3})), "[{{512 8} [{1 3}]}]", "[{256 8} {256 9}]"},
	} {
		if came, gone := impl.Delta(x.a, x.b); show(came) != x.came || show(gone) != x.gone {
			t.Error(name, came, gone)
		}
	}
}

func TestDeltaInvalid(t *testing.T) {
	for _, bad := range badFibs() {
		for _, good := range []impl.Fib{{}, wayTable(20), wayTable(60)} {
			for _, x := range [][2]impl.Fib{{bad, good}, {good, bad}, {bad, bad}} {
				if came, gone := impl.Delta(x[0], x[1]); len(came) > 0 || len(gone) > 0 {
					t.Fatal(x, came, gone)
				}
			}
		}
	}
}

// Promise 9, and the guarantee of chapter 7: the changes between two tables lead from one to the other; between equal tables there are none.
func TestPromise9ChangesLead(t *testing.T) {
	for _, x := range fibPairs() {
		came, gone := impl.Delta(x[0], x[1])
		got := impl.Program(x[0], came, gone)
		if !sameGroups(got.L, x[1].L) || !impl.FibOk(got) {
			t.Fatal(x, came, gone, got)
		}
		if (len(came)+len(gone) == 0) != sameGroups(x[0].L, x[1].L) {
			t.Fatal("changes", x, came, gone)
		}
		// None of the changes can be left out.
		for i := range came {
			if got := impl.Program(x[0], slices.Concat(came[:i], came[i+1:]), gone); sameGroups(got.L, x[1].L) {
				t.Fatal("came", x, came[i])
			}
		}
		for i := range gone {
			if got := impl.Program(x[0], came, slices.Concat(gone[:i], gone[i+1:])); sameGroups(got.L, x[1].L) {
				t.Fatal("gone", x, gone[i])
			}
		}
	}
}

// Promise 9 for the tables that a switch has one after the other.
func TestPromise9ChangesOfRoutes(t *testing.T) {
	r := rand.New(rand.NewSource(37))
	var routes impl.Rib
	var f impl.Fib
	for step := range 5000 {
		if e := randomEntry(r); r.Intn(3) == 0 {
			routes = impl.RibDrop(routes, e.Prefix, e.Peer)
		} else {
			e.Attr.Bw = randomBws(r, 1)[0]
			routes, _ = impl.RibPut(routes, e)
		}
		next, ok := impl.FibOf(routes, 1+r.Intn(4))
		came, gone := impl.Delta(f, next)
		if f = impl.Program(f, came, gone); !ok || !sameGroups(f.L, next.L) {
			t.Fatal(step, came, gone, f, next)
		}
	}
}

// programOf is the reference for Program with a valid table and groups.
func programOf(a impl.Fib, came []impl.Group, gone []impl.Prefix) impl.Fib {
	held := groupsByPlace(a.L)
	maps.DeleteFunc(held, func(_ int, g impl.Group) bool { return slices.Contains(gone, g.Prefix) })
	maps.Copy(held, groupsByPlace(came))
	if len(held) > 60 {
		return impl.Fib{}
	}
	return inOrder(held)
}

func checkProgram(t *testing.T, a impl.Fib, came []impl.Group, gone []impl.Prefix) {
	t.Helper()
	if got := impl.Program(a, came, gone); !sameGroups(got.L, programOf(a, came, gone).L) || !impl.FibOk(got) {
		t.Fatal(a, came, gone, got)
	}
}

// randomGroups are in any order, and may have prefixes twice.
func randomGroups(r *rand.Rand, from []impl.Prefix, n int) []impl.Group {
	var l []impl.Group
	for range r.Intn(n + 1) {
		l = append(l, impl.Group{Prefix: from[r.Intn(len(from))], Hops: randomHops(r)})
	}
	return l
}

func TestProgram(t *testing.T) {
	r := rand.New(rand.NewSource(38))
	bad := badPrefixes()
	full, empty := 0, 0
	for step := range 30000 {
		from := [][]impl.Prefix{ribPrefixes(), manyPrefixes(60), manyPrefixes(70)}[step%3]
		a := randomWays(r, from)
		if step%9 == 0 {
			a = wayTable(50 + r.Intn(11))
		}
		came := randomGroups(r, from, 1+step%20)
		gone := append(somePlaces(r, from, r.Intn(9)), bad[r.Intn(len(bad))])
		r.Shuffle(len(gone), func(i, j int) { gone[i], gone[j] = gone[j], gone[i] })
		checkProgram(t, a, came, gone)
		if want := programOf(a, came, gone); len(want.L) == 60 {
			full++
		} else if len(a.L) > 50 && len(want.L) == 0 {
			empty++
		}
	}
	if full < 100 || empty < 100 {
		t.Error("few tables were full or more than full", full, empty)
	}
	for _, f := range goodFibs() {
		checkProgram(t, f, nil, nil)
		checkProgram(t, f, []impl.Group{}, []impl.Prefix{})
		checkProgram(t, f, f.L, nil)
		checkProgram(t, impl.Fib{}, f.L, nil)
		for _, g := range f.L {
			checkProgram(t, f, nil, []impl.Prefix{g.Prefix})
			checkProgram(t, f, []impl.Group{{Prefix: g.Prefix, Hops: goodHops()[6]}}, nil)
			checkProgram(t, f, []impl.Group{g, {Prefix: g.Prefix, Hops: goodHops()[6]}}, []impl.Prefix{g.Prefix, g.Prefix})
		}
	}
}

func TestProgramExamples(t *testing.T) {
	p, q, s := impl.Prefix{Addr: 256, Len: 8}, impl.Prefix{Addr: 256, Len: 9}, impl.Prefix{Addr: 512, Len: 8}
	hops := goodHops()
	a := impl.Fib{L: []impl.Group{{Prefix: p, Hops: hops[2]}, {Prefix: q, Hops: hops[3]}}}
	for name, x := range map[string]struct {
		came []impl.Group
		gone []impl.Prefix
		text string
	}{
		"nothing":             {nil, nil, "1.0/8 if0*1\n1.0/9 if7*16\n"},
		"first gone":          {nil, []impl.Prefix{p}, "1.0/9 if7*16\n"},
		"last gone":           {nil, []impl.Prefix{q}, "1.0/8 if0*1\n"},
		"all gone":            {nil, []impl.Prefix{q, s, p}, ""},
		"not there":           {nil, []impl.Prefix{s}, "1.0/8 if0*1\n1.0/9 if7*16\n"},
		"only its length":     {nil, []impl.Prefix{{Addr: 512, Len: 9}, {Addr: 256, Len: 16}}, "1.0/8 if0*1\n1.0/9 if7*16\n"},
		"not valid":           {nil, []impl.Prefix{{Addr: 256, Len: 17}, {Addr: 256, Len: -1}, {Addr: -1, Len: 8}, {Addr: 257, Len: 8}}, "1.0/8 if0*1\n1.0/9 if7*16\n"},
		"not valid and valid": {nil, []impl.Prefix{{Addr: 256, Len: 17}, p}, "1.0/9 if7*16\n"},
		"gone twice":          {nil, []impl.Prefix{p, p}, "1.0/9 if7*16\n"},
		"came last":           {[]impl.Group{{Prefix: s}}, nil, "1.0/8 if0*1\n1.0/9 if7*16\n2.0/8 here\n"},
		"came first":          {[]impl.Group{{}}, nil, "0.0/0 here\n1.0/8 if0*1\n1.0/9 if7*16\n"},
		"replaced":            {[]impl.Group{{Prefix: p, Hops: hops[8]}}, nil, "1.0/8 if1*3 if2*11 if5*1\n1.0/9 if7*16\n"},
		"replaced by none":    {[]impl.Group{{Prefix: q}}, nil, "1.0/8 if0*1\n1.0/9 here\n"},
		"came and gone":       {[]impl.Group{{Prefix: p, Hops: hops[4]}}, []impl.Prefix{p}, "1.0/8 if3*7\n1.0/9 if7*16\n"},
		"new, came and gone":  {[]impl.Group{{Prefix: s, Hops: hops[4]}}, []impl.Prefix{s}, "1.0/8 if0*1\n1.0/9 if7*16\n2.0/8 if3*7\n"},
		"came twice":          {[]impl.Group{{Prefix: s, Hops: hops[4]}, {Prefix: s, Hops: hops[5]}}, nil, "1.0/8 if0*1\n1.0/9 if7*16\n2.0/8 if3*8\n"},
		"came twice, replace": {[]impl.Group{{Prefix: p, Hops: hops[5]}, {Prefix: s}, {Prefix: p, Hops: hops[4]}}, nil, "1.0/8 if3*7\n1.0/9 if7*16\n2.0/8 here\n"},
		"came out of order":   {[]impl.Group{{Prefix: s}, {Prefix: impl.Prefix{Addr: 256, Len: 16}}, {Prefix: impl.Prefix{Len: 1}}}, []impl.Prefix{q, p}, "0.0/1 here\n1.0/16 here\n2.0/8 here\n"},
	} {
		if got := string(impl.FibText(impl.Program(a, x.came, x.gone))); got != x.text {
			t.Errorf("%s: %q", name, got)
		}
	}
}

// Only the number of groups in the end matters, not how many there would be if groups came before others are gone.
func TestProgramFull(t *testing.T) {
	a, prefixes := wayTable(60), manyPrefixes(200)
	for gone := range 9 {
		for came := range 9 {
			for again := range 9 {
				var l []impl.Group
				for i := range came {
					l = append(l, impl.Group{Prefix: prefixes[60+i], Hops: goodHops()[i]})
				}
				for i := range again {
					l = append(l, impl.Group{Prefix: prefixes[59-i], Hops: goodHops()[i]}, impl.Group{Prefix: prefixes[59-i]})
				}
				got := impl.Program(a, l, prefixes[:gone])
				if left := 60 - gone + came; left > 60 && len(got.L) > 0 || left <= 60 && len(got.L) != left {
					t.Fatal(gone, came, again, got)
				}
				checkProgram(t, a, l, prefixes[:gone])
			}
		}
	}
	for n := range 200 {
		l := wayTable(n).L
		checkProgram(t, impl.Fib{}, l, nil)
		checkProgram(t, a, l, manyPrefixes(60))
		slices.Reverse(l)
		checkProgram(t, impl.Fib{}, slices.Concat(l, l, l), prefixes)
	}
	if got := impl.Program(impl.Fib{}, wayTable(61).L, prefixes); len(got.L) > 0 {
		t.Error("what came is not gone", got)
	}
}

func TestProgramInvalid(t *testing.T) {
	good := wayTable(20)
	for _, f := range badFibs() {
		for _, came := range [][]impl.Group{nil, good.L, {{}}} {
			if got := impl.Program(f, came, manyPrefixes(3)); len(got.L) > 0 {
				t.Fatal(f, came, got)
			}
		}
		// The limit and the order hold for the table, not for what came; so the groups that would make it valid again do not help.
		if got := impl.Program(f, good.L, manyPrefixes(768)); len(got.L) > 0 {
			t.Fatal(f, got)
		}
	}
	for _, g := range badGroups() {
		for _, came := range [][]impl.Group{{g}, {{}, g}, {g, {}}, {g, {Prefix: g.Prefix}}, {{}, g, {Prefix: impl.Prefix{Addr: 256, Len: 8}}}} {
			for _, f := range []impl.Fib{{}, good, wayTable(60)} {
				for _, gone := range [][]impl.Prefix{nil, {g.Prefix}, manyPrefixes(60)} {
					if got := impl.Program(f, came, gone); len(got.L) > 0 {
						t.Fatal(f, came, gone, got)
					}
				}
			}
		}
	}
}

// Very many groups that came are too many, and very many of one prefix are one.
func TestProgramLong(t *testing.T) {
	all := make([]impl.Group, 0, 131071)
	for _, p := range allPrefixes() {
		all = append(all, impl.Group{Prefix: p})
	}
	if got := impl.Program(impl.Fib{}, all, nil); len(got.L) > 0 {
		t.Error(len(got.L))
	}
	all[100000].Prefix.Len = 17
	if got := impl.Program(impl.Fib{}, all, nil); len(got.L) > 0 {
		t.Error(len(got.L))
	}
	same := slices.Repeat([]impl.Group{{Prefix: impl.Prefix{Addr: 256, Len: 8}}}, 100000)
	same = append(same, impl.Group{Prefix: impl.Prefix{Addr: 256, Len: 8}, Hops: goodHops()[4]})
	if got := impl.Program(wayTable(56), same, slices.Repeat(manyPrefixes(20), 1000)); len(got.L) != 37 || show(got.L[36]) != show(wayTable(56).L[55]) || show(got.L[0]) != "{{256 8} [{3 7}]}" {
		t.Error(len(got.L))
	}
	if got := impl.Program(impl.Fib{}, same, nil); string(impl.FibText(got)) != "1.0/8 if3*7\n" {
		t.Error(got)
	}
}

// fibTextOf is the reference for FibText with a valid table.
func fibTextOf(f impl.Fib) string {
	text := ""
	for _, g := range f.L {
		text += textOf(g.Prefix)
		if len(g.Hops) == 0 {
			text += " here"
		}
		for _, h := range g.Hops {
			text += fmt.Sprintf(" if%d*%d", h.If, h.Weight)
		}
		text += "\n"
	}
	return text
}

func TestFibText(t *testing.T) {
	for _, f := range goodFibs() {
		if got := string(impl.FibText(f)); got != fibTextOf(f) {
			t.Fatalf("%q %q", got, fibTextOf(f))
		}
	}
	for _, f := range badFibs() {
		if got := impl.FibText(f); len(got) > 0 {
			t.Fatalf("%v %q", f, got)
		}
	}
	f := impl.Fib{L: []impl.Group{{Hops: goodHops()[11]}, {Prefix: impl.Prefix{Addr: 384, Len: 9}}, {Prefix: impl.Prefix{Addr: 65535, Len: 16}, Hops: goodHops()[2]}}}
	if got := string(impl.FibText(f)); got != "0.0/0 if4*16 if5*16 if6*16 if7*16\n1.128/9 here\n255.255/16 if0*1\n" {
		t.Errorf("%q", got)
	}
}

// What lies behind the length of a slice neither spoils a table nor belongs to it.
func TestFibBehindLength(t *testing.T) {
	p, q := impl.Prefix{Addr: 256, Len: 8}, impl.Prefix{Addr: 256, Len: 9}
	hops := hopsFrom([2]int{2, 3}, [2]int{4, 5}, [2]int{1, 1}, [2]int{99, 0}, [2]int{5, 1})
	l := []impl.Group{{Prefix: p, Hops: hops[:2]}, {Prefix: q, Hops: hops[1:2]}, {Prefix: p}, {Prefix: impl.Prefix{Len: 99}}}
	one, two := impl.Fib{L: l[:1]}, impl.Fib{L: l[:2]}
	if !impl.GroupOk(l[0]) || !impl.FibOk(one) || !impl.FibOk(two) || string(impl.FibText(one)) != "1.0/8 if2*3 if4*5\n" || impl.Pick(l[0], 8) != 2 || impl.Pick(l[0], 7) != 4 {
		t.Error("read behind the length")
	}
	if g, ok := impl.Lookup(one, 256); !ok || show(g) != "{{256 8} [{2 3} {4 5}]}" {
		t.Error(g, ok)
	}
	came, gone := impl.Delta(one, two)
	if show(came) != "[{{256 9} [{4 5}]}]" || len(gone) > 0 {
		t.Error(came, gone)
	}
	came, gone = impl.Delta(two, one)
	if len(came) > 0 || show(gone) != "[{256 9}]" {
		t.Error(came, gone)
	}
	if f := impl.Program(one, l[1:2], []impl.Prefix{q, p}[:1]); string(impl.FibText(f)) != "1.0/8 if2*3 if4*5\n1.0/9 if4*5\n" {
		t.Error(f)
	}
	if got := impl.Weights([]int{10, 30, 1, -1, 2, 3}[:3]); show(got) != "[3 11 1]" {
		t.Error(got)
	}
	entries := []impl.Entry{entryOf(p, 2, impl.Attr{Bw: 5}), entryOf(p, 3, impl.Attr{Bw: 5}), entryOf(p, 1, impl.Attr{})}
	if f, ok := impl.FibOf(impl.Rib{L: entries[:1]}, 4); !ok || string(impl.FibText(f)) != "1.0/8 if2*16\n" {
		t.Error(f, ok)
	}
}

// crowdedGroups gives the same groups inside of a longer list, with all hops side by side in one array, and both arrays.
func crowdedGroups(l []impl.Group) ([]impl.Group, []impl.Group, []impl.Hop) {
	behind := impl.Hop{If: -9, Weight: -9}
	whole := slices.Concat([]impl.Group{{}}, l, make([]impl.Group, 3))
	hops := []impl.Hop{behind}
	for _, g := range l {
		hops = append(hops, g.Hops...)
	}
	hops = append(hops, behind, behind, behind)
	at := 1
	for i, g := range l {
		whole[i+1].Hops = hops[at : at+len(g.Hops)]
		at += len(g.Hops)
	}
	return whole[1 : 1+len(l)], whole, hops
}

// fibCase is a set of arguments, all of them in arrays that have more behind them.
type fibCase struct {
	a, b     impl.Fib
	came     []impl.Group
	gone     []impl.Prefix
	bws      []int
	r        impl.Rib
	addr     int
	groups   [][]impl.Group
	hops     [][]impl.Hop
	prefixes []impl.Prefix
	numbers  [][]int
	entries  []impl.Entry
}

func newFibCase(a, b impl.Fib, came []impl.Group, gone []impl.Prefix, bws []int, r impl.Rib, addr int) *fibCase {
	c := &fibCase{addr: addr, groups: make([][]impl.Group, 3), hops: make([][]impl.Hop, 3), numbers: make([][]int, 2)}
	c.a.L, c.groups[0], c.hops[0] = crowdedGroups(a.L)
	c.b.L, c.groups[1], c.hops[1] = crowdedGroups(b.L)
	c.came, c.groups[2], c.hops[2] = crowdedGroups(came)
	c.prefixes = slices.Concat([]impl.Prefix{{Addr: 7}}, gone, make([]impl.Prefix, 3))
	c.gone = c.prefixes[1 : 1+len(gone)]
	c.numbers[0] = slices.Concat([]int{7}, bws, make([]int, 3))
	c.bws = c.numbers[0][1 : 1+len(bws)]
	c.r, c.entries, c.numbers[1] = crowdedRib(r)
	return c
}

func (c *fibCase) shown() string {
	return show(c.groups) + show(c.hops) + show(c.prefixes) + show(c.numbers) + show(c.entries)
}

// group is one of the table a, if there is one.
func (c *fibCase) group() impl.Group {
	if len(c.a.L) == 0 {
		return impl.Group{}
	}
	return c.a.L[len(c.a.L)/2]
}

// fibResult has what a function returned; slices only, because nothing else can share memory.
type fibResult struct {
	l        []impl.Group
	hops     []impl.Hop
	prefixes []impl.Prefix
	numbers  []int
	text     []byte
}

func fibCalls() map[string]func(*fibCase) fibResult {
	return map[string]func(*fibCase) fibResult{
		"GroupOk": func(c *fibCase) fibResult { impl.GroupOk(c.group()); return fibResult{} },
		"FibOk":   func(c *fibCase) fibResult { impl.FibOk(c.a); return fibResult{} },
		"Weights": func(c *fibCase) fibResult { return fibResult{numbers: impl.Weights(c.bws)} },
		"FibOf":   func(c *fibCase) fibResult { f, _ := impl.FibOf(c.r, 1+len(c.bws)%4); return fibResult{l: f.L} },
		"Lookup":  func(c *fibCase) fibResult { g, _ := impl.Lookup(c.a, c.addr); return fibResult{hops: g.Hops} },
		"Pick":    func(c *fibCase) fibResult { impl.Pick(c.group(), c.addr); return fibResult{} },
		"Delta": func(c *fibCase) fibResult {
			came, gone := impl.Delta(c.a, c.b)
			return fibResult{l: came, prefixes: gone}
		},
		"Program": func(c *fibCase) fibResult { return fibResult{l: impl.Program(c.a, c.came, c.gone).L} },
		"FibText": func(c *fibCase) fibResult { return fibResult{text: impl.FibText(c.a)} },
	}
}

func fibCases() []*fibCase {
	var l []*fibCase
	r := rand.New(rand.NewSource(39))
	fibs, tables, groups := goodFibs(), someTables(), badGroups()
	bad := badFibs()
	for i, a := range slices.Concat(fibs, bad[:40]) {
		for k := range 4 {
			b := changedWays(r, a)
			if k == 0 {
				b = fibs[r.Intn(len(fibs))]
			}
			came, gone := randomGroups(r, ribPrefixes(), 6), somePlaces(r, manyPrefixes(60), 9)
			if k == 1 {
				came = slices.Clone(b.L)
			}
			if k == 2 {
				came, gone = append(came, groups[r.Intn(len(groups))]), append(gone, badPrefixes()[i%20])
			}
			if k == 3 {
				came, gone = nil, nil
			}
			addr := r.Intn(65536)
			if len(a.L) > 0 && k > 0 {
				addr = a.L[r.Intn(len(a.L))].Prefix.Addr
			}
			l = append(l, newFibCase(a, b, came, gone, randomBws(r, r.Intn(6)), tables[r.Intn(len(tables))], addr))
		}
	}
	return l
}

func TestFibArgumentsKept(t *testing.T) {
	checkKept(t, fibCases(), fibCalls())
}

func (x fibResult) hopSlices() [][]impl.Hop {
	l := [][]impl.Hop{x.hops}
	for _, g := range x.l {
		l = append(l, g.Hops)
	}
	return l
}

func TestFibResultsAreNew(t *testing.T) {
	for name, call := range fibCalls() {
		for i, c := range fibCases() {
			first, second := call(c), call(c)
			if show(first) != show(second) {
				t.Fatal(name, "differs from call to call", i)
			}
			checkApart(t, name, slices.Concat(c.hops, first.hopSlices(), second.hopSlices()), func(i int) impl.Hop { return impl.Hop{If: i} })
			checkApart(t, name, [][]impl.Prefix{c.prefixes, first.prefixes, second.prefixes}, func(i int) impl.Prefix { return impl.Prefix{Addr: i} })
			checkApart(t, name, slices.Concat(c.numbers, [][]int{first.numbers, second.numbers}), func(i int) int { return 1000000 + i })
			checkApart(t, name, [][]byte{first.text, second.text}, func(i int) byte { return byte(i) })
			tables := append(slices.Clone(c.groups), first.l, second.l)
			checkApartBy(t, name, tables, func(i int) impl.Group { return impl.Group{Prefix: impl.Prefix{Addr: i + 50}} }, sameGroup)
		}
	}
}

func TestFibConstants(t *testing.T) {
	const width, full int8 = impl.MaxWidth, impl.FullWeight
	if width != 4 || full != 16 {
		t.Error(width, full)
	}
}
