package tests

import (
	"maps"
	"math"
	"math/rand"
	"slices"
	"testing"

	"loop.example/g00557/impl"
)

// placeOf is the reference for the order of valid entries: numbers that are in the same order.
func placeOf(e impl.Entry) int {
	return e.Prefix.Addr*1000 + e.Prefix.Len*10 + e.Peer + 1
}

// tableOf has these entries in order; a later one replaces an earlier one of the same prefix and peer.
func tableOf(entries ...impl.Entry) impl.Rib {
	places := map[int]impl.Entry{}
	for _, e := range entries {
		places[placeOf(e)] = e
	}
	var r impl.Rib
	for _, k := range slices.Sorted(maps.Keys(places)) {
		r.L = append(r.L, places[k])
	}
	return r
}

func entryOf(p impl.Prefix, peer int, a impl.Attr) impl.Entry {
	return impl.Entry{Prefix: p, Peer: peer, Attr: a}
}

// without is the reference for what drops entries.
func without(r impl.Rib, gone func(impl.Entry) bool) impl.Rib {
	var out impl.Rib
	for _, e := range r.L {
		if !gone(e) {
			out.L = append(out.L, e)
		}
	}
	return out
}

func sameEntries(a, b []impl.Entry) bool {
	return slices.EqualFunc(a, b, func(x, y impl.Entry) bool {
		return x.Prefix == y.Prefix && x.Peer == y.Peer && sameAttr(x.Attr, y.Attr)
	})
}

func sameRib(a, b impl.Rib) bool {
	return sameEntries(a.L, b.L)
}

// shutAttrs are as Import leaves them, and are in several groups of equal rank.
func shutAttrs() []impl.Attr {
	return []impl.Attr{
		{Pref: 100}, {Pref: 100, Bw: 10}, {Path: []int{5}, Pref: 100}, {Path: []int{6}, Pref: 100, Bw: 1000}, {Path: []int{7}, Pref: 100, Comm: []int{7}},
		{Path: []int{5, 6}, Pref: 100}, {Path: []int{6, 5}, Pref: 100, Comm: []int{999, 1001}}, {Path: []int{9}, Comm: []int{1000}}, {Path: []int{8}, Comm: []int{1, 1000}, Bw: 3},
		{Path: []int{1, 2, 3, 4, 5, 6, 7, 8}, Pref: 100}, {Path: []int{8, 7, 6, 5, 4, 3, 2, 1}, Comm: []int{997, 998, 999, 1000}},
	}
}

// ribPrefixes have addresses and lengths in common, so that one of both alone does not tell them apart.
func ribPrefixes() []impl.Prefix {
	return []impl.Prefix{
		{}, {Len: 1}, {Len: 8}, {Len: 16}, {Addr: 1, Len: 16}, {Addr: 256, Len: 8}, {Addr: 256, Len: 9}, {Addr: 256, Len: 16}, {Addr: 384, Len: 9}, {Addr: 512, Len: 8},
		{Addr: 32768, Len: 1}, {Addr: 32768, Len: 16}, {Addr: 65535, Len: 16},
	}
}

func badPeers() []int {
	return []int{-2, -3, -100, 8, 9, 255, 1<<32 - 1, 1 << 32, 1<<32 + 7, math.MaxInt, math.MinInt}
}

// tallTable has n entries, with nine peers for each prefix.
func tallTable(n int) impl.Rib {
	var r impl.Rib
	attrs, prefixes := shutAttrs(), manyPrefixes(n/9+1)
	for i := range n {
		r.L = append(r.L, impl.Entry{Prefix: prefixes[i/9], Peer: i%9 - 1, Attr: attrs[i%len(attrs)]})
	}
	return r
}

// wideTable has n entries, each of its own prefix and all of one peer.
func wideTable(n int, peer int) impl.Rib {
	var r impl.Rib
	attrs := shutAttrs()
	for i, p := range manyPrefixes(n) {
		r.L = append(r.L, impl.Entry{Prefix: p, Peer: peer, Attr: attrs[i%len(attrs)]})
	}
	return r
}

func randomEntry(r *rand.Rand) impl.Entry {
	prefixes, attrs := ribPrefixes(), slices.Concat(shutAttrs(), sentAttrs())
	return impl.Entry{Prefix: prefixes[r.Intn(len(prefixes))], Peer: r.Intn(9) - 1, Attr: attrs[r.Intn(len(attrs))]}
}

func randomTable(r *rand.Rand) impl.Rib {
	prefixes, attrs := ribPrefixes(), slices.Concat(shutAttrs(), sentAttrs())
	places := r.Perm(9 * len(prefixes))[:r.Intn(61)]
	slices.Sort(places)
	var t impl.Rib
	for _, at := range places {
		t.L = append(t.L, entryOf(prefixes[at/9], at%9-1, attrs[r.Intn(len(attrs))]))
	}
	return t
}

func goodRibs() []impl.Rib {
	l := []impl.Rib{{}, {L: []impl.Entry{}}, {L: []impl.Entry{{Peer: -1, Attr: impl.Attr{Path: []int{}, Pref: 100, Comm: []int{}}}}}}
	for _, n := range []int{1, 2, 8, 9, 10, 30, 59, 60} {
		l = append(l, tallTable(n), wideTable(n, n%9-1))
	}
	r := rand.New(rand.NewSource(20))
	for range 60 {
		l = append(l, randomTable(r))
	}
	return l
}

// badEntries are valid but for one thing.
func badEntries() []impl.Entry {
	good := impl.Entry{Prefix: impl.Prefix{Addr: 256, Len: 8}, Peer: 2, Attr: impl.Attr{Path: []int{5}, Pref: 100}}
	var l []impl.Entry
	for _, p := range badPrefixes() {
		l = append(l, impl.Entry{Prefix: p, Peer: 2, Attr: good.Attr})
	}
	for _, n := range badPeers() {
		l = append(l, impl.Entry{Prefix: good.Prefix, Peer: n, Attr: good.Attr})
	}
	for _, a := range badAttrs() {
		l = append(l, impl.Entry{Prefix: good.Prefix, Peer: 2, Attr: a})
	}
	return l
}

// badRibs are valid but for one thing: an entry, their number, or their order (by prefix and by peer alone).
func badRibs() []impl.Rib {
	l := []impl.Rib{tallTable(61), wideTable(61, 3), tallTable(62), wideTable(120, -1), wideTable(700, 0)}
	for _, e := range badEntries() {
		l = append(l, impl.Rib{L: []impl.Entry{e}})
		for _, at := range []int{0, 4, 19} {
			x := tallTable(20)
			x.L[at] = e
			l = append(l, x)
		}
	}
	for _, n := range badPeers() {
		for _, at := range []int{0, 8} { // the first peer of a prefix, or the last one, so that the order alone may be right
			x := tallTable(18)
			x.L[at].Peer = n
			l = append(l, x)
		}
	}
	for i := range 19 {
		for _, build := range []func() impl.Rib{func() impl.Rib { return tallTable(20) }, func() impl.Rib { return wideTable(20, 5) }} {
			twice, exchanged := build(), build()
			twice.L[i+1].Prefix, twice.L[i+1].Peer = twice.L[i].Prefix, twice.L[i].Peer
			exchanged.L[i], exchanged.L[i+1] = exchanged.L[i+1], exchanged.L[i]
			l = append(l, twice, exchanged)
		}
	}
	return l
}

func TestRibOk(t *testing.T) {
	for _, r := range goodRibs() {
		if !impl.RibOk(r) {
			t.Error(r)
		}
	}
	for _, r := range badRibs() {
		if impl.RibOk(r) {
			t.Error(r)
		}
	}
	for n := range 64 {
		if impl.RibOk(tallTable(n)) != (n <= 60) || impl.RibOk(wideTable(n, 7)) != (n <= 60) {
			t.Error("number of entries", n)
		}
	}
	for n := -300; n < 300; n++ {
		if impl.RibOk(impl.Rib{L: []impl.Entry{{Peer: n}}}) != (n >= -1 && n <= 7) {
			t.Error("peer", n)
		}
	}
	for _, a := range goodAttrs() {
		if !impl.RibOk(impl.Rib{L: []impl.Entry{{Attr: a}}}) {
			t.Error(a)
		}
	}
}

// Two or three entries are valid exactly if they are in the order of their places.
func TestRibOkOrder(t *testing.T) {
	var all []impl.Entry
	for _, p := range ribPrefixes() {
		for _, peer := range []int{-1, 0, 7} {
			all = append(all, impl.Entry{Prefix: p, Peer: peer})
		}
	}
	for _, a := range all {
		for _, b := range all {
			two := placeOf(a) < placeOf(b)
			if impl.RibOk(impl.Rib{L: []impl.Entry{a, b}}) != two {
				t.Fatal(a, b)
			}
			for _, c := range all {
				if impl.RibOk(impl.Rib{L: []impl.Entry{a, b, c}}) != (two && placeOf(b) < placeOf(c)) {
					t.Fatal(a, b, c)
				}
			}
		}
	}
}

// putOf is the reference for RibPut with valid arguments.
func putOf(r impl.Rib, e impl.Entry) (impl.Rib, bool) {
	out := tableOf(append(slices.Clone(r.L), e)...)
	if len(out.L) > 60 {
		return r, false
	}
	return out, true
}

func checkPut(t *testing.T, r impl.Rib, e impl.Entry) {
	t.Helper()
	want, fits := putOf(r, e)
	if got, ok := impl.RibPut(r, e); ok != fits || !sameRib(got, want) || !impl.RibOk(got) {
		t.Fatal(r, e, got, ok)
	}
}

func TestRibPut(t *testing.T) {
	for _, r := range goodRibs() {
		for i, p := range slices.Concat(ribPrefixes(), manyPrefixes(60)) {
			for _, peer := range []int{-1, 0, 3, 7} {
				checkPut(t, r, impl.Entry{Prefix: p, Peer: peer, Attr: sentAttrs()[i%len(sentAttrs())]})
			}
		}
		for i := range r.L {
			checkPut(t, r, impl.Entry{Prefix: r.L[i].Prefix, Peer: r.L[i].Peer, Attr: impl.Attr{Path: []int{65535}, Pref: 1, Bw: 77}})
		}
	}
	for _, a := range goodAttrs() {
		checkPut(t, tallTable(12), impl.Entry{Peer: 3, Attr: a})
	}
}

// An entry of a full table can be replaced, but none can be added.
func TestRibPutFull(t *testing.T) {
	for _, r := range []impl.Rib{tallTable(60), wideTable(60, 3)} {
		for i, e := range r.L {
			e.Attr = impl.Attr{Path: []int{77}, Pref: 7}
			got, ok := impl.RibPut(r, e)
			if !ok || len(got.L) != 60 || !sameEntries(got.L[i:i+1], []impl.Entry{e}) || !sameEntries(got.L[:i], r.L[:i]) || !sameEntries(got.L[i+1:], r.L[i+1:]) {
				t.Fatal(e, got, ok)
			}
		}
		for _, e := range []impl.Entry{{Prefix: impl.Prefix{Addr: 65535, Len: 16}, Peer: 3}, {Prefix: impl.Prefix{}, Peer: 3}, {Prefix: impl.Prefix{Addr: 20 << 8, Len: 10}, Peer: -1}} {
			if got, ok := impl.RibPut(r, e); ok || !sameRib(got, r) {
				t.Fatal(e, got, ok)
			}
			short := impl.Rib{L: r.L[:59]}
			if got, ok := impl.RibPut(short, e); !ok || len(got.L) != 60 || !sameRib(got, tableOf(append(slices.Clone(short.L), e)...)) {
				t.Fatal(e, got, ok)
			}
		}
	}
}

func TestRibPutInvalid(t *testing.T) {
	good := impl.Entry{Prefix: impl.Prefix{Addr: 256, Len: 8}, Peer: 2, Attr: impl.Attr{Path: []int{5}, Pref: 100}}
	for _, e := range badEntries() {
		for _, r := range []impl.Rib{{}, tallTable(20), tallTable(60), tallTable(61), tableOf(good)} {
			if got, ok := impl.RibPut(r, e); ok || len(got.L) > 0 {
				t.Fatal(r, e, got, ok)
			}
		}
	}
	for _, r := range badRibs() {
		for _, e := range []impl.Entry{r.L[0], good, {}} {
			if got, ok := impl.RibPut(r, e); ok || len(got.L) > 0 {
				t.Fatal(r, e, got, ok)
			}
		}
	}
}

func somePeers() []int {
	return append(badPeers(), -1, 0, 1, 2, 3, 4, 5, 6, 7)
}

func TestRibDropAndGet(t *testing.T) {
	for _, r := range goodRibs() {
		for _, p := range slices.Concat(ribPrefixes(), manyPrefixes(8), badPrefixes()) {
			for _, peer := range somePeers() {
				chosen := func(e impl.Entry) bool { return e.Prefix == p && e.Peer == peer }
				at := slices.IndexFunc(r.L, chosen)
				if got := impl.RibDrop(r, p, peer); !sameRib(got, without(r, chosen)) {
					t.Fatal(r, p, peer, got)
				}
				a, ok := impl.RibGet(r, p, peer)
				if ok != (at >= 0) || ok && !sameAttr(a, r.L[at].Attr) || !ok && !isZeroAttr(a) {
					t.Fatal(r, p, peer, a, ok)
				}
			}
		}
	}
}

func TestRibDropPeer(t *testing.T) {
	for _, r := range goodRibs() {
		for _, peer := range somePeers() {
			want := without(r, func(e impl.Entry) bool { return e.Peer == peer })
			if got := impl.RibDropPeer(r, peer); !sameRib(got, want) {
				t.Fatal(r, peer, got)
			}
		}
	}
}

// prefixesOf is the reference for RibPrefixes with a valid table.
func prefixesOf(r impl.Rib) []impl.Prefix {
	var l []impl.Prefix
	for _, e := range r.L {
		if !slices.Contains(l, e.Prefix) {
			l = append(l, e.Prefix)
		}
	}
	return l
}

func TestRibPrefixes(t *testing.T) {
	for _, r := range goodRibs() {
		if got := impl.RibPrefixes(r); !slices.Equal(got, prefixesOf(r)) {
			t.Fatal(r, got)
		}
	}
	for n := range 61 {
		if got := impl.RibPrefixes(wideTable(n, 2)); !slices.Equal(got, manyPrefixes(n)) {
			t.Fatal(n, got)
		}
		if got := impl.RibPrefixes(tallTable(n)); !slices.Equal(got, manyPrefixes((n+8)/9)) {
			t.Fatal(n, got)
		}
	}
}

// bestOf is the reference for Best with a valid table.
func bestOf(r impl.Rib, p impl.Prefix) []impl.Entry {
	groups := map[string][]impl.Entry{}
	for _, e := range r.L {
		if e.Prefix == p {
			rank := rankOf(e.Attr)
			groups[rank] = append(groups[rank], e)
		}
	}
	if len(groups) == 0 {
		return nil
	}
	return groups[slices.Min(slices.Collect(maps.Keys(groups)))]
}

func TestBest(t *testing.T) {
	for _, r := range goodRibs() {
		for _, p := range slices.Concat(ribPrefixes(), manyPrefixes(8), badPrefixes()) {
			if got := impl.Best(r, p); !sameEntries(got, bestOf(r, p)) {
				t.Fatal(r, p, got)
			}
		}
	}
}

// Every list of up to four ranks for the peers of a prefix.
func TestBestEveryRank(t *testing.T) {
	attrs := []impl.Attr{{Path: []int{5, 6}, Pref: 101, Bw: 1}, {Path: []int{7}, Pref: 100, Bw: 2}, {Path: []int{3}, Pref: 100, Comm: []int{9}}, {Path: []int{3, 4}, Pref: 100}, {}}
	p := impl.Prefix{Addr: 256, Len: 8}
	for n := range 5 * 5 * 5 * 5 {
		r := tableOf(entryOf(impl.Prefix{Len: 7}, 3, impl.Attr{Pref: 1000}), entryOf(impl.Prefix{Addr: 256, Len: 9}, 0, impl.Attr{Pref: 1000}))
		for i, k := range []int{n % 5, n / 5 % 5, n / 25 % 5, n / 125} {
			r = tableOf(append(r.L, impl.Entry{Prefix: p, Peer: []int{-1, 0, 4, 7}[i], Attr: attrs[k]})...)
			if got := impl.Best(r, p); !sameEntries(got, bestOf(r, p)) || len(got) == 0 {
				t.Fatal(r, got)
			}
		}
	}
}

func TestBestExamples(t *testing.T) {
	p, q := impl.Prefix{Addr: 256, Len: 8}, impl.Prefix{Addr: 256, Len: 9}
	entry := func(peer, pref int, path ...int) impl.Entry {
		return impl.Entry{Prefix: p, Peer: peer, Attr: impl.Attr{Path: path, Pref: pref, Bw: peer + 1}}
	}
	for _, x := range []struct {
		l    []impl.Entry
		best []int
	}{
		{nil, nil},
		{[]impl.Entry{entry(5, 0, 1, 2, 3)}, []int{5}},
		{[]impl.Entry{entry(0, 100, 9), entry(1, 100, 8), entry(2, 100, 7)}, []int{0, 1, 2}},
		{[]impl.Entry{entry(0, 100, 9), entry(1, 100, 8, 8), entry(2, 100, 7)}, []int{0, 2}},
		{[]impl.Entry{entry(0, 100, 9, 9), entry(1, 100, 8), entry(2, 100, 7, 7)}, []int{1}},
		{[]impl.Entry{entry(0, 100, 9, 9), entry(1, 100, 8, 8), entry(7, 100, 7)}, []int{7}},
		{[]impl.Entry{entry(0, 0, 9), entry(1, 100, 8, 8, 8), entry(7, 100, 7, 7, 7, 7)}, []int{1}},
		{[]impl.Entry{entry(-1, 100), entry(1, 100, 8), entry(7, 100, 7)}, []int{-1}},
		{[]impl.Entry{entry(-1, 0), entry(1, 1, 1, 2, 3, 4, 5, 6, 7, 8)}, []int{1}},
		{[]impl.Entry{entry(-1, 100), entry(0, 100), entry(7, 100)}, []int{-1, 0, 7}},
	} {
		r := tableOf(append(x.l, impl.Entry{Prefix: q, Peer: 6, Attr: impl.Attr{Pref: 1000}})...)
		var peers []int
		for _, e := range impl.Best(r, p) {
			peers = append(peers, e.Peer)
			if e.Prefix != p || !sameAttr(e.Attr, entry(e.Peer, e.Attr.Pref, e.Attr.Path...).Attr) {
				t.Error(x, e)
			}
		}
		if !slices.Equal(peers, x.best) {
			t.Error(x, peers)
		}
	}
}

// An invalid table has no entries, whatever is looked up.
func TestRibInvalid(t *testing.T) {
	for _, r := range badRibs() {
		places := []impl.Entry{{}, {Prefix: impl.Prefix{Addr: 256, Len: 8}, Peer: 2}, {Peer: -1}}
		for _, e := range append(places, r.L[0], r.L[len(r.L)-1]) {
			if got := impl.RibDrop(r, e.Prefix, e.Peer); len(got.L) > 0 {
				t.Fatal("RibDrop", r, e, got)
			}
			if got := impl.RibDropPeer(r, e.Peer); len(got.L) > 0 {
				t.Fatal("RibDropPeer", r, e, got)
			}
			if a, ok := impl.RibGet(r, e.Prefix, e.Peer); ok || !isZeroAttr(a) {
				t.Fatal("RibGet", r, e, a)
			}
			if got := impl.Best(r, e.Prefix); len(got) > 0 {
				t.Fatal("Best", r, e, got)
			}
		}
		if got := impl.RibPrefixes(r); len(got) > 0 {
			t.Fatal("RibPrefixes", r, got)
		}
	}
}

// importOf is the reference for Import with valid arguments.
func importOf(as int, a impl.Attr) (impl.Attr, bool) {
	if slices.Contains(a.Path, as) {
		return impl.Attr{}, false
	}
	a.Pref = 100
	if slices.Contains(a.Comm, 1000) {
		a.Pref = 0
	}
	return a, true
}

// exportOf is the reference for Export with valid arguments.
func exportOf(as int, a impl.Attr) (impl.Attr, bool) {
	if len(a.Path) == 8 {
		return impl.Attr{}, false
	}
	a.Path = append([]int{as}, a.Path...)
	a.Pref = 0
	return a, true
}

func goodNumbers() []int {
	return []int{1, 2, 3, 5, 7, 8, 9, 100, 1000, 65534, 65535}
}

func TestImportAndExport(t *testing.T) {
	for _, a := range slices.Concat(goodAttrs(), shutAttrs(), sentAttrs()) {
		for _, as := range goodNumbers() {
			want, fine := importOf(as, a)
			if got, ok := impl.Import(as, a); ok != fine || !sameAttr(got, want) || !impl.AttrOk(got) {
				t.Fatal("Import", as, a, got, ok)
			}
			want, fine = exportOf(as, a)
			if got, ok := impl.Export(as, a); ok != fine || !sameAttr(got, want) || !impl.AttrOk(got) {
				t.Fatal("Export", as, a, got, ok)
			}
		}
	}
}

func TestImportExamples(t *testing.T) {
	for _, x := range []struct {
		as   int
		a    impl.Attr
		want impl.Attr
		ok   bool
	}{
		{5, impl.Attr{Path: []int{5, 6, 7}, Pref: 1}, impl.Attr{}, false},
		{6, impl.Attr{Path: []int{5, 6, 7}, Bw: 1}, impl.Attr{}, false},
		{7, impl.Attr{Path: []int{5, 6, 7}, Comm: []int{1}}, impl.Attr{}, false},
		{8, impl.Attr{Path: []int{5, 6, 7}, Comm: []int{8}, Bw: 8}, impl.Attr{Path: []int{5, 6, 7}, Pref: 100, Comm: []int{8}, Bw: 8}, true},
		{1, impl.Attr{}, impl.Attr{Pref: 100}, true},
		{65535, impl.Attr{Pref: 1000, Bw: 1000}, impl.Attr{Pref: 100, Bw: 1000}, true},
		{1000, impl.Attr{Path: []int{9}, Pref: 99, Comm: []int{1000}}, impl.Attr{Path: []int{9}, Comm: []int{1000}}, true},
		{9, impl.Attr{Path: []int{8}, Pref: 1000, Comm: []int{1, 1000, 1001}, Bw: 5}, impl.Attr{Path: []int{8}, Comm: []int{1, 1000, 1001}, Bw: 5}, true},
		{100, impl.Attr{Path: []int{8, 7, 6, 5, 4, 3, 2, 1}, Pref: 100}, impl.Attr{Path: []int{8, 7, 6, 5, 4, 3, 2, 1}, Pref: 100}, true},
		{1, impl.Attr{Path: []int{8, 7, 6, 5, 4, 3, 2, 1}, Pref: 100}, impl.Attr{}, false},
	} {
		if got, ok := impl.Import(x.as, x.a); ok != x.ok || !sameAttr(got, x.want) {
			t.Error(x, got, ok)
		}
	}
}

func TestExportExamples(t *testing.T) {
	for _, x := range []struct {
		as   int
		a    impl.Attr
		want impl.Attr
		ok   bool
	}{
		{5, impl.Attr{Pref: 100, Bw: 7}, impl.Attr{Path: []int{5}, Bw: 7}, true},
		{5, impl.Attr{Path: []int{5, 6}, Pref: 1000, Comm: []int{1, 1000}}, impl.Attr{Path: []int{5, 5, 6}, Comm: []int{1, 1000}}, true},
		{65535, impl.Attr{Path: []int{7, 6, 5, 4, 3, 2, 1}}, impl.Attr{Path: []int{65535, 7, 6, 5, 4, 3, 2, 1}}, true},
		{1, impl.Attr{Path: []int{8, 7, 6, 5, 4, 3, 2, 1}, Pref: 100, Bw: 7}, impl.Attr{}, false},
	} {
		if got, ok := impl.Export(x.as, x.a); ok != x.ok || !sameAttr(got, x.want) {
			t.Error(x, got, ok)
		}
	}
}

func TestImportAndExportInvalid(t *testing.T) {
	check := func(as int, a impl.Attr) {
		t.Helper()
		if got, ok := impl.Import(as, a); ok || !isZeroAttr(got) {
			t.Fatal("Import", as, a, got)
		}
		if got, ok := impl.Export(as, a); ok || !isZeroAttr(got) {
			t.Fatal("Export", as, a, got)
		}
	}
	for _, a := range badAttrs() {
		for _, as := range slices.Concat(goodNumbers(), badNumbers()) {
			check(as, a)
		}
	}
	for _, a := range fewAttrs() {
		for _, as := range badNumbers() {
			check(as, a)
		}
	}
}

// takeOf is the reference for Take with valid arguments.
func takeOf(r impl.Rib, as int, peer int, m impl.Msg) (impl.Rib, int) {
	a, accepted := importOf(as, m.Attr)
	out := without(r, func(e impl.Entry) bool {
		return e.Peer == peer && (slices.Contains(m.Gone, e.Prefix) || slices.Contains(m.Came, e.Prefix))
	})
	if accepted {
		for _, p := range m.Came {
			out.L = append(out.L, entryOf(p, peer, a))
		}
	}
	if len(out.L) > 60 {
		return r, impl.ErCease
	}
	return tableOf(out.L...), impl.ErNone
}

func update(gone, came []impl.Prefix, a impl.Attr) impl.Msg {
	if len(came) == 0 {
		a = impl.Attr{}
	}
	return impl.Msg{Kind: impl.MsUpdate, Gone: gone, Came: came, Attr: a}
}

// somePlaces chooses up to n prefixes of a list, and leaves them in their order.
func somePlaces(r *rand.Rand, from []impl.Prefix, n int) []impl.Prefix {
	var l []impl.Prefix
	for _, i := range slices.Sorted(slices.Values(r.Perm(len(from))[:r.Intn(n+1)])) {
		l = append(l, from[i])
	}
	return l
}

func randomUpdate(r *rand.Rand, from []impl.Prefix) impl.Msg {
	attrs := sentAttrs()
	return update(somePlaces(r, from, 8), somePlaces(r, from, 8), attrs[r.Intn(len(attrs))])
}

func goodUpdates() []impl.Msg {
	attrs := sentAttrs()
	l := []impl.Msg{{Kind: impl.MsUpdate}, {Kind: impl.MsUpdate, Gone: []impl.Prefix{}, Came: []impl.Prefix{}}}
	lists := [][]impl.Prefix{nil, manyPrefixes(1), manyPrefixes(8), ribPrefixes()[:8], ribPrefixes()[3:11], ribPrefixes()[5:]}
	for _, gone := range lists {
		for i, came := range lists {
			l = append(l, update(gone, came, attrs[i]), update(gone, came, shutAttrs()[7]), update(gone, came, attrs[6]))
		}
	}
	return l
}

func checkTake(t *testing.T, r impl.Rib, as, peer int, m impl.Msg) {
	t.Helper()
	want, code := takeOf(r, as, peer, m)
	if got, e := impl.Take(r, as, peer, m); e != code || !sameRib(got, want) || !impl.RibOk(got) {
		t.Fatal(r, as, peer, m, got, e)
	}
}

func TestTake(t *testing.T) {
	for _, r := range goodRibs() {
		for _, m := range goodUpdates() {
			for _, as := range []int{5, 9, 65535} {
				for _, peer := range []int{0, 3, 7} {
					checkTake(t, r, as, peer, m)
				}
			}
		}
	}
}

func TestTakeRandom(t *testing.T) {
	r := rand.New(rand.NewSource(21))
	codes := map[int]int{}
	for range 30000 {
		table, from := randomTable(r), ribPrefixes()
		if r.Intn(3) == 0 {
			table, from = tallTable(50+r.Intn(11)), manyPrefixes(12)
		}
		m, as, peer := randomUpdate(r, from), goodNumbers()[r.Intn(11)], r.Intn(8)
		checkTake(t, table, as, peer, m)
		_, code := takeOf(table, as, peer, m)
		codes[code]++
	}
	if codes[impl.ErNone] < 1000 || codes[impl.ErCease] < 1000 {
		t.Error(codes)
	}
}

func TestTakeExamples(t *testing.T) {
	p, q, s := impl.Prefix{Addr: 256, Len: 8}, impl.Prefix{Addr: 256, Len: 9}, impl.Prefix{Addr: 512, Len: 8}
	old, other := impl.Attr{Path: []int{4}, Pref: 100}, impl.Attr{Path: []int{3, 2}, Pref: 100}
	sent := impl.Attr{Path: []int{7, 8}, Pref: 5, Bw: 9}
	taken := impl.Attr{Path: []int{7, 8}, Pref: 100, Bw: 9}
	r := tableOf(impl.Entry{Prefix: p, Peer: 2, Attr: old}, impl.Entry{Prefix: p, Peer: 3, Attr: other}, impl.Entry{Prefix: q, Peer: 2, Attr: old})
	for name, x := range map[string]struct {
		as   int
		m    impl.Msg
		want string
	}{
		"nothing":                      {1, update(nil, nil, sent), show([]impl.Entry{entryOf(p, 2, old), entryOf(p, 3, other), entryOf(q, 2, old)})},
		"gone":                         {1, update([]impl.Prefix{p}, nil, sent), show([]impl.Entry{entryOf(p, 3, other), entryOf(q, 2, old)})},
		"gone that was not there":      {1, update([]impl.Prefix{s}, nil, sent), show([]impl.Entry{entryOf(p, 2, old), entryOf(p, 3, other), entryOf(q, 2, old)})},
		"came again":                   {1, update(nil, []impl.Prefix{p}, sent), show([]impl.Entry{entryOf(p, 2, taken), entryOf(p, 3, other), entryOf(q, 2, old)})},
		"came first":                   {1, update(nil, []impl.Prefix{s}, sent), show([]impl.Entry{entryOf(p, 2, old), entryOf(p, 3, other), entryOf(q, 2, old), entryOf(s, 2, taken)})},
		"gone and came":                {1, update([]impl.Prefix{p}, []impl.Prefix{p}, sent), show([]impl.Entry{entryOf(p, 2, taken), entryOf(p, 3, other), entryOf(q, 2, old)})},
		"several":                      {1, update([]impl.Prefix{p, q}, []impl.Prefix{q, s}, sent), show([]impl.Entry{entryOf(p, 3, other), entryOf(q, 2, taken), entryOf(s, 2, taken)})},
		"as at the front of the path":  {7, update(nil, []impl.Prefix{p, s}, sent), show([]impl.Entry{entryOf(p, 3, other), entryOf(q, 2, old)})},
		"as at the end of the path":    {8, update(nil, []impl.Prefix{p}, sent), show([]impl.Entry{entryOf(p, 3, other), entryOf(q, 2, old)})},
		"gone, and came with this as":  {8, update([]impl.Prefix{p}, []impl.Prefix{p, q}, sent), show([]impl.Entry{entryOf(p, 3, other)})},
		"this as, and gone another":    {8, update([]impl.Prefix{q}, []impl.Prefix{s}, sent), show([]impl.Entry{entryOf(p, 2, old), entryOf(p, 3, other)})},
		"as of an entry that is there": {4, update(nil, []impl.Prefix{s}, sent), show([]impl.Entry{entryOf(p, 2, old), entryOf(p, 3, other), entryOf(q, 2, old), entryOf(s, 2, taken)})},
	} {
		if got, code := impl.Take(r, x.as, 2, x.m); code != impl.ErNone || show(got.L) != x.want {
			t.Error(name, got, code)
		}
	}
	sent.Comm = []int{999, 1000}
	want := impl.Attr{Path: []int{7, 8}, Comm: []int{999, 1000}, Bw: 9}
	if got, code := impl.Take(impl.Rib{}, 1, 0, update(nil, []impl.Prefix{p}, sent)); code != impl.ErNone || show(got.L) != show([]impl.Entry{entryOf(p, 0, want)}) {
		t.Error("shut", got, code)
	}
}

// Only the number of entries in the end matters, not what it would be if prefixes came before others are gone.
func TestTakeFull(t *testing.T) {
	r := wideTable(60, 3)
	held, fresh := manyPrefixes(60), manyPrefixes(68)[60:]
	sent := impl.Attr{Path: []int{77}}
	for gone := range 9 {
		for came := range 9 {
			for again := range 9 - came {
				m := update(held[:gone], slices.Concat(held[20:20+again], fresh[:came]), sent)
				left := 60 - gone + came
				got, code := impl.Take(r, 1, 3, m)
				if left > 60 {
					if code != impl.ErCease || !sameRib(got, r) {
						t.Fatal(m, got, code)
					}
				} else if code != impl.ErNone || len(got.L) != left {
					t.Fatal(m, got, code)
				}
				checkTake(t, r, 1, 3, m)
				checkTake(t, r, 77, 3, m)
				checkTake(t, r, 1, 2, m)
				both := update(m.Came[:again], m.Came, sent)
				checkTake(t, r, 1, 3, both)
			}
		}
	}
	// The path contains the switch itself, so the new ones are not inserted.
	if got, code := impl.Take(r, 77, 3, update(nil, fresh, sent)); code != impl.ErNone || !sameRib(got, r) {
		t.Error(got, code)
	}
	// What another peer announces does not replace an entry.
	if got, code := impl.Take(r, 1, 2, update(nil, held[:1], sent)); code != impl.ErCease || !sameRib(got, r) {
		t.Error(got, code)
	}
}

func TestTakeInvalid(t *testing.T) {
	check := func(why string, r impl.Rib, as, peer int, m impl.Msg) {
		t.Helper()
		if got, code := impl.Take(r, as, peer, m); code != impl.ErState || len(got.L) > 0 {
			t.Fatal(why, r, as, peer, m, got, code)
		}
	}
	few := []impl.Rib{{}, tallTable(20), wideTable(60, 3)}
	good := update(manyPrefixes(2), manyPrefixes(8), impl.Attr{Path: []int{5}})
	full := update(nil, manyPrefixes(68)[60:], impl.Attr{Path: []int{5}})
	for _, r := range badRibs() {
		check("table", r, 1, 3, good)
		check("table", r, 5, 3, good)
		check("table", r, 1, 3, impl.Msg{Kind: impl.MsUpdate})
	}
	for _, r := range few {
		for _, m := range []impl.Msg{good, full, {Kind: impl.MsUpdate}} {
			for _, as := range badNumbers() {
				check("as", r, as, 3, m)
			}
			for _, peer := range append(badPeers(), -1) {
				check("peer", r, 1, peer, m)
				check("peer", r, 5, peer, m)
			}
		}
		for _, m := range badMsgs() {
			check("message", r, 1, 3, m)
		}
		for _, m := range plainMsgs() {
			if m.Kind != impl.MsUpdate {
				check("kind", r, 1, 3, m)
			}
		}
	}
}

// checkOthers compares, by RibGet, all entries of two tables but those that are left out.
func checkOthers(t *testing.T, before, after impl.Rib, out func(impl.Entry) bool) {
	t.Helper()
	count := 0
	for _, e := range before.L {
		if out(e) {
			continue
		}
		count++
		if a, ok := impl.RibGet(after, e.Prefix, e.Peer); !ok || !sameAttr(a, e.Attr) {
			t.Fatal("does not remain", e, a, ok)
		}
	}
	for _, e := range after.L {
		if !out(e) {
			count--
		}
	}
	if count != 0 {
		t.Fatal("others were added", before, after)
	}
}

// Promise 7: an entry that is inserted is found, and all others remain; entries are ordered by prefix and then by peer.
func TestPromise7InsertedIsFound(t *testing.T) {
	r := rand.New(rand.NewSource(22))
	for range 20000 {
		table, e := randomTable(r), randomEntry(r)
		if r.Intn(4) == 0 {
			e.Prefix = manyPrefixes(60)[r.Intn(60)]
		}
		got, ok := impl.RibPut(table, e)
		a, found := impl.RibGet(got, e.Prefix, e.Peer)
		if ok && (!found || !sameAttr(a, e.Attr)) {
			t.Fatal(table, e, got)
		}
		if !ok && (found || len(table.L) < 60) {
			t.Fatal(table, e, got)
		}
		if !slices.IsSortedFunc(got.L, func(x, y impl.Entry) int { return sign(placeOf(x), placeOf(y)) }) {
			t.Fatal("order", got)
		}
		checkOthers(t, table, got, func(x impl.Entry) bool { return x.Prefix == e.Prefix && x.Peer == e.Peer })
	}
}

// Promise 7: an entry that is removed is not found, and all others remain.
func TestPromise7RemovedIsNotFound(t *testing.T) {
	r := rand.New(rand.NewSource(23))
	for range 10000 {
		table, e := randomTable(r), randomEntry(r)
		got := impl.RibDrop(table, e.Prefix, e.Peer)
		if a, ok := impl.RibGet(got, e.Prefix, e.Peer); ok || !isZeroAttr(a) || !impl.RibOk(got) {
			t.Fatal(table, e, got)
		}
		checkOthers(t, table, got, func(x impl.Entry) bool { return x.Prefix == e.Prefix && x.Peer == e.Peer })
		got = impl.RibDropPeer(table, e.Peer)
		for _, p := range ribPrefixes() {
			if a, ok := impl.RibGet(got, p, e.Peer); ok || !isZeroAttr(a) || !impl.RibOk(got) {
				t.Fatal(table, e, got)
			}
		}
		checkOthers(t, table, got, func(x impl.Entry) bool { return x.Peer == e.Peer })
	}
}

// Promise 7 for a long sequence of insertions and removals, compared with a map.
func TestPromise7ForLong(t *testing.T) {
	r := rand.New(rand.NewSource(24))
	var table impl.Rib
	held, refused := map[int]impl.Entry{}, 0
	for step := range 20000 {
		e := randomEntry(r)
		_, there := held[placeOf(e)]
		switch k := r.Intn(100); {
		case k == 0:
			table = impl.RibDropPeer(table, e.Peer)
			maps.DeleteFunc(held, func(_ int, x impl.Entry) bool { return x.Peer == e.Peer })
		case k < 20:
			table = impl.RibDrop(table, e.Prefix, e.Peer)
			delete(held, placeOf(e))
		default:
			next, ok := impl.RibPut(table, e)
			if ok != (there || len(held) < 60) {
				t.Fatal(step, len(held), ok)
			}
			if ok {
				held[placeOf(e)] = e
			} else {
				refused++
			}
			table = next
		}
		if !sameRib(table, tableOf(slices.Collect(maps.Values(held))...)) || !impl.RibOk(table) {
			t.Fatal(step, table, held)
		}
	}
	if refused < 100 {
		t.Error("the table was hardly ever full", refused)
	}
}

// Promise 7: no rank is before that of a best entry, and all entries with the best rank are reported.
func TestPromise7Best(t *testing.T) {
	r := rand.New(rand.NewSource(25))
	for range 3000 {
		table := randomTable(r)
		prefixes := impl.RibPrefixes(table)
		for _, p := range ribPrefixes() {
			best := impl.Best(table, p)
			if (len(best) > 0) != slices.Contains(prefixes, p) {
				t.Fatal(table, p, best)
			}
			for i, b := range best {
				if a, ok := impl.RibGet(table, p, b.Peer); b.Prefix != p || !ok || !sameAttr(a, b.Attr) || i > 0 && best[i-1].Peer >= b.Peer {
					t.Fatal(table, p, best)
				}
				for _, e := range table.L {
					if e.Prefix == p && impl.Better(e.Attr, b.Attr) {
						t.Fatal("a rank is before", table, e, b)
					}
					reported := slices.ContainsFunc(best, func(x impl.Entry) bool { return x.Peer == e.Peer })
					if e.Prefix == p && impl.Equal(e.Attr, b.Attr) != reported {
						t.Fatal("not all are reported", table, e, best)
					}
				}
			}
		}
	}
}

// Promise 8: what a peer announces is accepted unless the path contains the switch's own AS number.
func TestPromise8Accepted(t *testing.T) {
	for _, r := range []impl.Rib{{}, tallTable(9), tallTable(40), wideTable(52, 6)} {
		for _, a := range slices.Concat(sentAttrs(), shutAttrs()[2:]) {
			for _, as := range goodNumbers() {
				for peer := range 8 {
					came := ribPrefixes()[2+peer%3 : 10]
					got, code := impl.Take(r, as, peer, update(nil, came, a))
					want, accepted := importOf(as, a)
					for _, p := range came {
						if x, ok := impl.RibGet(got, p, peer); code != impl.ErNone || ok != accepted || !sameAttr(x, want) {
							t.Fatal(r, a, as, peer, got, code)
						}
					}
				}
			}
		}
	}
}

// Promise 8, and the guarantee of chapter 6: the entries of other peers remain.
func TestPromise8OthersRemain(t *testing.T) {
	r := rand.New(rand.NewSource(26))
	for range 20000 {
		table, from := randomTable(r), ribPrefixes()
		if r.Intn(3) == 0 {
			table, from = tallTable(50+r.Intn(11)), manyPrefixes(12)
		}
		peer := r.Intn(8)
		got, code := impl.Take(table, goodNumbers()[r.Intn(11)], peer, randomUpdate(r, from))
		checkOthers(t, table, got, func(e impl.Entry) bool { return e.Peer == peer })
		if code != impl.ErNone && !sameRib(got, table) {
			t.Fatal(table, got, code)
		}
	}
}

// Promise 8: what is passed on has a rank after that of its origin.
func TestPromise8RankAfterExport(t *testing.T) {
	for _, a := range slices.Concat(goodAttrs(), shutAttrs(), sentAttrs()) {
		for _, as := range goodNumbers() {
			b, ok := impl.Export(as, a)
			if ok != (len(a.Path) < 8) || ok && !impl.Better(a, b) {
				t.Fatal(as, a, b, ok)
			}
		}
	}
}

// Promise 8: a route that is exported, and imported elsewhere, has a rank after that of the original one.
// The original is one that a switch may have: its own one with Pref 100, or one that was imported.
// Import raises a Pref below 100 without CmShut, but no switch has one.
func TestPromise8RankAfterImport(t *testing.T) {
	for _, a := range slices.Concat(goodAttrs(), shutAttrs(), sentAttrs()) {
		origins := []impl.Attr{a}
		if x, ok := impl.Import(77, a); ok {
			origins = append(origins, x)
		}
		for _, origin := range origins {
			after := origin.Pref >= 100 || slices.Contains(origin.Comm, impl.CmShut)
			if !after && len(origins) == 2 && sameAttr(origin, origins[1]) {
				t.Fatal("imported", origin)
			}
			for _, as := range []int{77, 88} {
				sent, fits := impl.Export(as, origin)
				got, ok := impl.Import(99, sent)
				if fits && ok && (impl.Better(origin, got) != after || impl.Equal(origin, got)) {
					t.Fatal(origin, sent, got)
				}
			}
		}
	}
}

// Promise 8 along a chain of switches: the rank falls from each to the next, until Path is full, and none accepts its own announcement.
func TestPromise8Chain(t *testing.T) {
	p := impl.Prefix{Addr: 256, Len: 8}
	for _, first := range []impl.Attr{{Pref: 100}, {Pref: 100, Bw: 10}, {Pref: 100, Comm: []int{7}}, {Pref: 100, Comm: []int{1000}}} {
		origin := first
		for as := 1; as <= 9; as++ {
			sent, ok := impl.Export(as, origin)
			if ok != (as < 9) {
				t.Fatal(as, origin, sent, ok)
			}
			if !ok {
				break
			}
			m := update(nil, []impl.Prefix{p}, sent)
			got, code := impl.Take(impl.Rib{}, as+1, 0, m)
			if code != impl.ErNone || len(got.L) != 1 || !impl.Better(origin, got.L[0].Attr) {
				t.Fatal(as, origin, got, code)
			}
			for back := 1; back <= as; back++ {
				if again, code := impl.Take(impl.Rib{}, back, 0, m); code != impl.ErNone || len(again.L) != 0 {
					t.Fatal(as, back, again, code)
				}
			}
			origin = got.L[0].Attr
		}
	}
}

// What lies behind the length of a slice neither spoils a table nor belongs to it.
func TestRibBehindLength(t *testing.T) {
	p, q := impl.Prefix{Addr: 256, Len: 8}, impl.Prefix{Addr: 512, Len: 8}
	path, comm := []int{5, 6, 0, 1, 7, 7, 7, 7, 7, 7}, []int{3, 2, 1000, 0}
	l := []impl.Entry{entryOf(p, 2, impl.Attr{Path: path[:2], Pref: 100, Comm: comm[:1]}), entryOf(p, 3, impl.Attr{Pref: 1000}), entryOf(p, 2, impl.Attr{}), entryOf(q, 99, impl.Attr{})}
	r := impl.Rib{L: l[:1]}
	want := "[{{256 8} 2 {[5 6] 100 [3] 0}}]"
	if !impl.RibOk(r) || show(impl.RibPrefixes(r)) != "[{256 8}]" || show(impl.Best(r, p)) != want || show(impl.RibDrop(r, p, 3).L) != want || show(impl.RibDropPeer(r, 99).L) != want {
		t.Error("read behind the length")
	}
	if a, ok := impl.RibGet(r, p, 3); ok || !isZeroAttr(a) {
		t.Error(a)
	}
	if a, ok := impl.Import(7, l[0].Attr); !ok || show(a) != "{[5 6] 100 [3] 0}" {
		t.Error(a, ok)
	}
	if a, ok := impl.Export(7, l[0].Attr); !ok || show(a) != "{[7 5 6] 0 [3] 0}" {
		t.Error(a, ok)
	}
	gone, came := []impl.Prefix{q, p, p, p}, []impl.Prefix{q, p, p}
	m := impl.Msg{Kind: impl.MsUpdate, Gone: gone[:1], Came: came[:1], Attr: l[0].Attr}
	if got, code := impl.Take(r, 7, 2, m); code != impl.ErNone || show(got.L) != "[{{256 8} 2 {[5 6] 100 [3] 0}} {{512 8} 2 {[5 6] 100 [3] 0}}]" {
		t.Error(got, code)
	}
	if got := impl.RibDropPeer(impl.Rib{L: l[:0]}, 0); len(got.L) > 0 || !impl.RibOk(impl.Rib{L: l[:0]}) {
		t.Error(got)
	}
}

// crowdedRib gives the same table inside of a longer list, with all its numbers side by side in one array, and both arrays.
func crowdedRib(r impl.Rib) (impl.Rib, []impl.Entry, []int) {
	whole := slices.Concat([]impl.Entry{{Peer: -90}}, r.L, []impl.Entry{{Peer: -91}, {Peer: -92}, {Peer: -93}})
	numbers := []int{-1}
	for _, e := range r.L {
		numbers = slices.Concat(numbers, e.Attr.Path, e.Attr.Comm)
	}
	numbers = append(numbers, -2, -3, -4)
	at := 1
	next := func(n int) []int {
		at += n
		return numbers[at-n : at]
	}
	for i, e := range r.L {
		whole[i+1].Attr.Path = next(len(e.Attr.Path))
		whole[i+1].Attr.Comm = next(len(e.Attr.Comm))
	}
	r.L = whole[1 : 1+len(r.L)]
	return r, whole, numbers
}

// ribCase is a set of arguments, all of them in arrays that have more behind them.
type ribCase struct {
	r        impl.Rib
	e        impl.Entry
	as, peer int
	m        impl.Msg
	entries  []impl.Entry
	numbers  [][]int
	prefixes []impl.Prefix
}

func newRibCase(r impl.Rib, e impl.Entry, as, peer int, m impl.Msg) *ribCase {
	c := &ribCase{e: e, as: as, peer: peer, numbers: make([][]int, 3)}
	c.r, c.entries, c.numbers[0] = crowdedRib(r)
	c.e.Attr, c.numbers[1] = crowded(e.Attr)
	c.m, c.prefixes, c.numbers[2] = crowdedMsg(m)
	return c
}

func (c *ribCase) shown() string {
	return show(c.entries) + show(c.numbers) + show(c.prefixes)
}

// ribResult has what a function returned; slices only, because nothing else can share memory.
type ribResult struct {
	l        []impl.Entry
	prefixes []impl.Prefix
	attr     impl.Attr
}

func ribCalls() map[string]func(*ribCase) ribResult {
	return map[string]func(*ribCase) ribResult{
		"RibOk":       func(c *ribCase) ribResult { impl.RibOk(c.r); return ribResult{} },
		"RibPut":      func(c *ribCase) ribResult { r, _ := impl.RibPut(c.r, c.e); return ribResult{l: r.L} },
		"RibDrop":     func(c *ribCase) ribResult { return ribResult{l: impl.RibDrop(c.r, c.e.Prefix, c.e.Peer).L} },
		"RibDropPeer": func(c *ribCase) ribResult { return ribResult{l: impl.RibDropPeer(c.r, c.e.Peer).L} },
		"RibGet":      func(c *ribCase) ribResult { a, _ := impl.RibGet(c.r, c.e.Prefix, c.e.Peer); return ribResult{attr: a} },
		"RibPrefixes": func(c *ribCase) ribResult { return ribResult{prefixes: impl.RibPrefixes(c.r)} },
		"Best":        func(c *ribCase) ribResult { return ribResult{l: impl.Best(c.r, c.e.Prefix)} },
		"Import":      func(c *ribCase) ribResult { a, _ := impl.Import(c.as, c.e.Attr); return ribResult{attr: a} },
		"Export":      func(c *ribCase) ribResult { a, _ := impl.Export(c.as, c.e.Attr); return ribResult{attr: a} },
		"Take":        func(c *ribCase) ribResult { r, _ := impl.Take(c.r, c.as, c.peer, c.m); return ribResult{l: r.L} },
	}
}

func ribCases() []*ribCase {
	var l []*ribCase
	r := rand.New(rand.NewSource(27))
	updates := slices.Concat(goodUpdates(), badMsgs()[:20])
	entries := badEntries()
	for _, table := range slices.Concat(goodRibs(), badRibs()[:100]) {
		for range 4 {
			e, as, m := randomEntry(r), goodNumbers()[r.Intn(11)], updates[r.Intn(len(updates))]
			if len(table.L) > 0 && r.Intn(2) == 0 {
				e.Prefix, e.Peer = table.L[r.Intn(len(table.L))].Prefix, table.L[r.Intn(len(table.L))].Peer
			}
			l = append(l, newRibCase(table, e, as, r.Intn(8), m))
		}
		l = append(l, newRibCase(table, entries[r.Intn(len(entries))], 0, -1, impl.Msg{Kind: impl.MsKeep}))
		for _, e := range table.L[:min(len(table.L), 3)] {
			l = append(l, newRibCase(table, e, 99, max(e.Peer, 0), update([]impl.Prefix{e.Prefix}, manyPrefixes(8), sentAttrs()[2])))
		}
	}
	for _, table := range []impl.Rib{tallTable(60), wideTable(60, 3)} {
		e := impl.Entry{Prefix: impl.Prefix{Addr: 65535, Len: 16}, Peer: 3, Attr: sentAttrs()[1]}
		l = append(l, newRibCase(table, e, 99, 3, update(nil, []impl.Prefix{e.Prefix}, sentAttrs()[1])))
	}
	return l
}

// checkKept calls each function with each set of arguments, and compares what is shown of these before and after.
func checkKept[C interface{ shown() string }, R any](t *testing.T, cases []C, calls map[string]func(C) R) {
	t.Helper()
	for _, c := range cases {
		was := c.shown()
		for name, call := range calls {
			if call(c); c.shown() != was {
				t.Fatal(name, was, c.shown())
			}
		}
	}
}

func TestRibArgumentsKept(t *testing.T) {
	checkKept(t, ribCases(), ribCalls())
}

// numberSlices are the slices of numbers of a result.
func (x ribResult) numberSlices() [][]int {
	l := [][]int{x.attr.Path, x.attr.Comm}
	for _, e := range x.l {
		l = append(l, e.Attr.Path, e.Attr.Comm)
	}
	return l
}

func checkApart[T comparable](t *testing.T, name string, lists [][]T, element func(int) T) {
	t.Helper()
	checkApartBy(t, name, lists, element, func(x, y T) bool { return x == y })
}

// checkApartBy fills each list, with its spare capacity, with an element of its own: a list that shares memory with a later one does not keep it.
func checkApartBy[T any](t *testing.T, name string, lists [][]T, element func(int) T, same func(T, T) bool) {
	t.Helper()
	for i, l := range lists {
		for j := range l[:cap(l)] {
			l[:cap(l)][j] = element(i)
		}
	}
	for i, l := range lists {
		for _, x := range l[:cap(l)] {
			if !same(x, element(i)) {
				t.Fatal(name, "shares memory", i, x)
			}
		}
	}
}

func samePeer(a, b impl.Entry) bool {
	return a.Peer == b.Peer
}

func TestRibResultsAreNew(t *testing.T) {
	for name, call := range ribCalls() {
		for i, c := range ribCases() {
			first, second := call(c), call(c)
			if !sameEntries(first.l, second.l) || !slices.Equal(first.prefixes, second.prefixes) || !sameAttr(first.attr, second.attr) {
				t.Fatal(name, "differs from call to call", i)
			}
			checkApart(t, name, slices.Concat(c.numbers, first.numberSlices(), second.numberSlices()), func(i int) int { return 1000000 + i })
			checkApart(t, name, [][]impl.Prefix{c.prefixes, first.prefixes, second.prefixes}, func(i int) impl.Prefix { return impl.Prefix{Addr: i} })
			checkApartBy(t, name, [][]impl.Entry{c.entries, first.l, second.l}, func(i int) impl.Entry { return impl.Entry{Peer: i + 50} }, samePeer)
		}
	}
}

func TestRibConstants(t *testing.T) {
	const entries, peers int8 = impl.MaxEntries, impl.MaxPeers
	if entries != 60 || peers != 8 {
		t.Error(entries, peers)
	}
}
