package tests

import (
	"math"
	"math/rand"
	"slices"
	"testing"

	"loop.example/g00557/impl"
)

func turnCmd(link int, up bool) impl.Cmd {
	return impl.Cmd{Kind: impl.CmTurn, At: link, On: up}
}

func markCmd(node int, on bool) impl.Cmd {
	return impl.Cmd{Kind: impl.CmMark, At: node, On: on}
}

func talkCmd(node int) impl.Cmd {
	return impl.Cmd{Kind: impl.CmTalk, At: node}
}

func deliverCmd(link int, ab bool) impl.Cmd {
	return impl.Cmd{Kind: impl.CmDeliver, At: link, On: ab}
}

func settleCmd() impl.Cmd {
	return impl.Cmd{Kind: impl.CmSettle}
}

func walkCmd(node, addr, hash int) impl.Cmd {
	return impl.Cmd{Kind: impl.CmWalk, At: node, Addr: addr, Hash: hash}
}

func sameTold(a, b impl.Told) bool {
	return a.Ok == b.Ok && a.N == b.N && slices.Equal(a.Path, b.Path)
}

func sameReplies(a, b []impl.Told) bool {
	return slices.EqualFunc(a, b, sameTold)
}

func isZeroTold(x impl.Told) bool {
	return sameTold(x, impl.Told{})
}

// cmdFits is the reference for CmdOk with a valid fabric. It has the greatest values of At, On, Addr and Hash for each kind.
func cmdFits(f impl.Fabric, c impl.Cmd) bool {
	nodes, links := len(f.Nodes)-1, len(f.Links)-1
	most, known := map[int][4]int{
		impl.CmTurn: {links, 1, 0, 0}, impl.CmMark: {nodes, 1, 0, 0}, impl.CmTalk: {nodes, 0, 0, 0},
		impl.CmDeliver: {links, 1, 0, 0}, impl.CmSettle: {0, 0, 0, 0}, impl.CmWalk: {nodes, 0, 65535, 65535},
	}[c.Kind]
	on := 0
	if c.On {
		on = 1
	}
	for i, n := range []int{c.At, on, c.Addr, c.Hash} {
		known = known && n >= 0 && n <= most[i]
	}
	return known
}

// goodCmds are valid for a fabric: all of most kinds, and some walks.
func goodCmds(f impl.Fabric) []impl.Cmd {
	l := []impl.Cmd{settleCmd()}
	for link := range f.Links {
		l = append(l, turnCmd(link, false), turnCmd(link, true), deliverCmd(link, false), deliverCmd(link, true))
	}
	addrs := addrsOf(f)
	for node := range f.Nodes {
		l = append(l, markCmd(node, false), markCmd(node, true), talkCmd(node), walkCmd(node, 0, 65535), walkCmd(node, 65535, 0))
		for i, addr := range addrs[:min(3, len(addrs))] {
			l = append(l, walkCmd(node, addr, []int{0, 1, 65535, 32768}[i]))
		}
	}
	return l
}

// lastCmds are valid commands, one of each kind if there is a link, for the last link or switch.
func lastCmds(f impl.Fabric) []impl.Cmd {
	node, link := len(f.Nodes)-1, len(f.Links)-1
	l := []impl.Cmd{settleCmd(), markCmd(node, true), talkCmd(node), walkCmd(node, 256, 9)}
	if link >= 0 {
		l = append(l, turnCmd(link, true), deliverCmd(link, true))
	}
	return l
}

// badCmds are wrong in one thing.
func badCmds(f impl.Fabric) []impl.Cmd {
	var l []impl.Cmd
	numbers := []int{1, -1, 2, -2, 256, 65535, 65536, 1 << 32, math.MaxInt, math.MinInt}
	for _, c := range lastCmds(f) {
		with := func(wrong []int, change func(*impl.Cmd, int)) {
			for _, n := range wrong {
				other := c
				change(&other, n)
				l = append(l, other)
			}
		}
		with([]int{-1, -2, 6, 7, 100, 1 << 32, 1<<32 + 2, math.MaxInt, math.MinInt}, func(c *impl.Cmd, n int) { c.Kind = n })
		places, fields := nodeIndices(f), numbers
		switch c.Kind {
		case impl.CmTurn, impl.CmDeliver:
			places = linkIndices(f)
		case impl.CmSettle:
			places = numbers
		case impl.CmWalk:
			fields = badAddrs()
		}
		with(places, func(c *impl.Cmd, n int) { c.At = n })
		with(fields, func(c *impl.Cmd, n int) { c.Addr = n })
		with(fields, func(c *impl.Cmd, n int) { c.Hash = n })
		if slices.Contains([]int{impl.CmTalk, impl.CmSettle, impl.CmWalk}, c.Kind) {
			with([]int{0}, func(c *impl.Cmd, _ int) { c.On = true })
		}
	}
	return l
}

// someFabrics are few, but of all kinds.
func someFabrics(t *testing.T) []impl.Fabric {
	t.Helper()
	clos, _ := impl.Clos(3, 4, 2)
	l := []impl.Fabric{netOf(1, silent(1)), netOf(2, numbered(8)), plainFabric(), clos, settled(t, clos), newFabric(t, numbered(8), append(ringPairs(8), crossPairs()...), 3)}
	r := rand.New(rand.NewSource(70))
	for range 8 {
		l = append(l, randomRaw(r), disturb(t, r, randomBuilt(t, r, ribPrefixes(), true), r.Intn(40)))
	}
	return l
}

// crossPairs complete a ring of eight switches to twelve links.
func crossPairs() [][]int {
	return [][]int{{0, 4}, {1, 5}, {2, 6}, {3, 7}}
}

func TestCmdOk(t *testing.T) {
	for _, f := range goodFabrics(t) {
		for _, c := range append(goodCmds(f), lastCmds(f)...) {
			if !impl.CmdOk(f, c) || !cmdFits(f, c) {
				t.Fatal("valid", brief(f), c)
			}
		}
		for _, c := range badCmds(f) {
			if impl.CmdOk(f, c) || cmdFits(f, c) {
				t.Fatal("not valid", brief(f), c)
			}
		}
	}
	for _, f := range badFabrics() {
		for _, c := range append(lastCmds(plainFabric()), lastCmds(netOf(2, silent(1), linkOf(0, 0, 0, 0)))...) {
			if impl.CmdOk(f, c) {
				t.Fatal("not valid", brief(f), c)
			}
		}
	}
}

// All fields in all combinations of values at their bounds.
func TestCmdOkEveryField(t *testing.T) {
	for _, f := range someFabrics(t)[:8] {
		for kind := -2; kind <= 7; kind++ {
			for _, at := range []int{-1, 0, 1, len(f.Nodes) - 1, len(f.Nodes), len(f.Links) - 1, len(f.Links), 7, 8, 11, 12} {
				for _, addr := range []int{-1, 0, 1, 65535, 65536} {
					for _, hash := range []int{-1, 0, 1, 65535, 65536} {
						for _, on := range []bool{false, true} {
							c := impl.Cmd{Kind: kind, At: at, On: on, Addr: addr, Hash: hash}
							if got := impl.CmdOk(f, c); got != cmdFits(f, c) {
								t.Fatal(brief(f), c, got)
							}
						}
					}
				}
			}
		}
	}
	f := plainFabric()
	for n := -70; n < 66000; n += 7 {
		for _, kind := range []int{impl.CmTurn, impl.CmWalk, impl.CmSettle} {
			for _, c := range []impl.Cmd{{Kind: kind, At: n}, {Kind: kind, Addr: n}, {Kind: kind, Hash: n}, {Kind: n, At: kind}} {
				if got := impl.CmdOk(f, c); got != cmdFits(f, c) {
					t.Fatal(c, got)
				}
			}
		}
	}
}

// doOf is the reference for Do with valid arguments.
func doOf(f impl.Fabric, c impl.Cmd) (impl.Fabric, impl.Told) {
	switch c.Kind {
	case impl.CmTurn:
		return turnOf(f, c.At, c.On), impl.Told{Ok: true}
	case impl.CmMark:
		out := copied(f)
		out.Nodes[c.At].Drain = c.On
		return out, impl.Told{Ok: true}
	case impl.CmTalk:
		out, ok := talkOf(f, c.At)
		return out, impl.Told{Ok: ok, N: inTransit(out) - inTransit(f)}
	case impl.CmDeliver:
		out, ok := deliverOf(f, c.At, c.On)
		return out, impl.Told{Ok: ok}
	case impl.CmSettle:
		out, n := settleOf(f)
		return out, impl.Told{Ok: n >= 0, N: n}
	}
	path, ok := walkOf(f, c.At, c.Addr, c.Hash)
	return f, impl.Told{Ok: ok, N: len(path), Path: path}
}

func checkDo(t *testing.T, f impl.Fabric, c impl.Cmd) (impl.Fabric, impl.Told) {
	t.Helper()
	want, reply := doOf(f, c)
	got, told := impl.Do(f, c)
	if !sameTold(told, reply) || !sameFabric(got, want) || !impl.FabricOk(got) {
		t.Fatal(brief(f), c, "gives", brief(got), told, "and not", brief(want), reply)
	}
	return got, told
}

func TestDo(t *testing.T) {
	replies := map[[2]any]int{}
	for _, f := range goodFabrics(t) {
		for _, c := range goodCmds(f) {
			_, told := checkDo(t, f, c)
			replies[[2]any{c.Kind, told.Ok}]++
		}
	}
	for kind := range 6 {
		if replies[[2]any{kind, true}] == 0 {
			t.Error("never executed", kind)
		}
	}
	if replies[[2]any{impl.CmTurn, false}]+replies[[2]any{impl.CmMark, false}] > 0 || replies[[2]any{impl.CmDeliver, false}] == 0 || replies[[2]any{impl.CmWalk, false}] == 0 {
		t.Error(replies)
	}
}

func TestDoInvalid(t *testing.T) {
	refuses := func(f impl.Fabric, c impl.Cmd) {
		t.Helper()
		if got, told := impl.Do(f, c); !isZeroFabric(got) || !isZeroTold(told) {
			t.Fatal(brief(f), c, brief(got), told)
		}
	}
	for _, f := range append(someFabrics(t), goodFabrics(t)[:40]...) {
		for _, c := range badCmds(f) {
			refuses(f, c)
		}
	}
	for i, f := range badFabrics() {
		for _, c := range lastCmds(plainFabric()) {
			c.At = min(c.At, i%3)
			refuses(f, c)
		}
	}
}

// checkReply compares the reply with one that is written out.
func checkReply(t *testing.T, why string, f impl.Fabric, c impl.Cmd, want impl.Told) impl.Fabric {
	t.Helper()
	got, told := checkDo(t, f, c)
	if !sameTold(told, want) {
		t.Error(why, told, "and not", want)
	}
	return got
}

// unchanged is for commands after which the fabric is as it was.
func unchanged(t *testing.T, why string, f impl.Fabric, c impl.Cmd, want impl.Told) {
	t.Helper()
	if got := checkReply(t, why, f, c, want); !sameFabric(got, f) {
		t.Error(why, brief(f), brief(got))
	}
}

func TestDoWithoutLinks(t *testing.T) {
	for n := 1; n <= 8; n++ {
		f := netOf(2, numbered(n))
		unchanged(t, "talk", f, talkCmd(n-1), impl.Told{Ok: true})
		unchanged(t, "settle", f, settleCmd(), impl.Told{Ok: true})
		unchanged(t, "walk to itself", f, walkCmd(n-1, 256*n, 5), impl.Told{Ok: true, N: 1, Path: []int{n - 1}})
		unchanged(t, "walk to another one", f, walkCmd(n-1, 256*n-1, 5), impl.Told{N: 1, Path: []int{n - 1}})
		unchanged(t, "marked as before", f, markCmd(0, false), impl.Told{Ok: true})
		if got := checkReply(t, "mark", f, markCmd(n-1, true), impl.Told{Ok: true}); !got.Nodes[n-1].Drain {
			t.Error("mark", got)
		}
		for _, c := range []impl.Cmd{turnCmd(0, true), turnCmd(0, false), deliverCmd(0, true), deliverCmd(0, false)} {
			if got, told := impl.Do(f, c); !isZeroFabric(got) || !isZeroTold(told) || impl.CmdOk(f, c) {
				t.Error("there is no link", c, told)
			}
		}
	}
}

func TestDoTurnAndMark(t *testing.T) {
	f := plainFabric()
	unchanged(t, "on as before", f, turnCmd(0, true), impl.Told{Ok: true})
	unchanged(t, "off as before", f, turnCmd(3, false), impl.Told{Ok: true})
	if got := checkReply(t, "off", f, turnCmd(0, false), impl.Told{Ok: true}); got.Links[0].Up || inTransit(got) != 3 {
		t.Error("off", brief(got))
	}
	if got := checkReply(t, "on", f, turnCmd(3, true), impl.Told{Ok: true}); !got.Links[3].Up || inTransit(got) != 6 {
		t.Error("on", brief(got))
	}
	on := checkReply(t, "mark", f, markCmd(3, true), impl.Told{Ok: true})
	if !on.Nodes[3].Drain || on.Nodes[0].Drain {
		t.Error("mark", brief(on))
	}
	unchanged(t, "marked as before", on, markCmd(3, true), impl.Told{Ok: true})
	if got := checkReply(t, "no mark", on, markCmd(3, false), impl.Told{Ok: true}); !sameFabric(got, f) {
		t.Error("no mark", brief(got))
	}
}

func TestDoTalk(t *testing.T) {
	nodes := numbered(4)
	nodes[3] = nodeOf(9, []impl.Prefix{{Addr: 4096, Len: 8}, {Addr: 8192, Len: 8}}, 0, nil, manyEntries(20, 2, 9))
	f := netOf(2, nodes, linkOf(0, 0, 1, 0), linkOf(3, 0, 0, 1), linkOf(1, 1, 3, 1), linkOf(0, 2, 3, 2))
	talkedOnce := checkReply(t, "three links", f, talkCmd(0), impl.Told{Ok: true, N: 3})
	unchanged(t, "nothing to send", talkedOnce, talkCmd(0), impl.Told{Ok: true})
	checkReply(t, "two links", talkedOnce, talkCmd(1), impl.Told{Ok: true, N: 2})
	unchanged(t, "no link", f, talkCmd(2), impl.Told{Ok: true})
	checkReply(t, "two prefixes on three links, and three withdrawals", f, talkCmd(3), impl.Told{Ok: true, N: 9})
	down := copied(f)
	down.Links[1].Up, down.Links[2].Up = false, false
	checkReply(t, "one link is up", down, talkCmd(1), impl.Told{Ok: true, N: 1})
	unchanged(t, "nothing to send on two links", netOf(1, silent(3), linkOf(0, 0, 1, 0), linkOf(2, 0, 0, 1)), talkCmd(0), impl.Told{Ok: true})
	for n := 495; n <= 500; n++ {
		full := copied(f)
		full.Links[1].Ab, full.Links[3].Ab = repeated(plainUpdate(), n), repeated(plainUpdate(), 500)
		full.Links[3].Ba = repeated(plainUpdate(), 495)
		if n <= 498 {
			checkReply(t, "room", full, talkCmd(3), impl.Told{Ok: true, N: 9})
		} else {
			unchanged(t, "no room", full, talkCmd(3), impl.Told{})
		}
		unchanged(t, "no room on the last link", full, talkCmd(0), impl.Told{})
		checkReply(t, "links beside them", full, talkCmd(1), impl.Told{Ok: true, N: 2})
		unchanged(t, "silent", full, talkCmd(2), impl.Told{Ok: true})
	}
	silenced := netOf(1, silent(2), linkOf(0, 0, 1, 0))
	silenced.Links[0].Ab, silenced.Links[0].Ba = repeated(plainUpdate(), 500), repeated(plainUpdate(), 500)
	unchanged(t, "500 in transit, and nothing to send", silenced, talkCmd(1), impl.Told{Ok: true})
}

func TestDoDeliver(t *testing.T) {
	f := netOf(1, numbered(3), linkOf(0, 0, 1, 1), linkOf(2, 2, 1, 3))
	f.Links[0].Ab, f.Links[1].Ba = repeated(plainUpdate(), 2), repeated(plainUpdate(), 500)
	unchanged(t, "nothing from B", f, deliverCmd(0, false), impl.Told{})
	unchanged(t, "nothing from A", f, deliverCmd(1, true), impl.Told{})
	got := checkReply(t, "from A", f, deliverCmd(0, true), impl.Told{Ok: true})
	if len(got.Links[0].Ab) != 1 || len(got.Nodes[1].Rib.L) != 2 {
		t.Error("from A", brief(got))
	}
	got = checkReply(t, "from B", got, deliverCmd(1, false), impl.Told{Ok: true})
	if len(got.Links[1].Ba) != 499 || len(got.Nodes[2].Rib.L) != 1 {
		t.Error("from B", brief(got))
	}
	got = checkReply(t, "the last one", got, deliverCmd(0, true), impl.Told{Ok: true})
	unchanged(t, "no message is left", got, deliverCmd(0, true), impl.Told{})
	unchanged(t, "a link that is down", turned(t, f, 1, false), deliverCmd(1, false), impl.Told{})
	refused := netOf(1, append(numbered(1), nodeOf(9, nil, 0, manyEntries(60, 5, 9), nil)), linkOf(0, 0, 1, 0))
	refused.Links[0].Ab = []impl.Msg{update(nil, manyPrefixes(3), impl.Attr{Path: []int{3}})}
	if got := checkReply(t, "refused", refused, deliverCmd(0, true), impl.Told{Ok: true}); inTransit(got) != 0 || len(got.Nodes[1].Rib.L) != 60 {
		t.Error("refused", brief(got))
	}
}

// neverSettled never settles, and is another one after 60 rounds.
func neverSettled() impl.Fabric {
	p := impl.Prefix{Addr: 256, Len: 8}
	know := func(as int) impl.Node {
		return nodeOf(as, nil, 0, []impl.Entry{entryOf(p, 3, impl.Attr{Path: []int{9}})}, nil)
	}
	return netOf(1, append(numbered(2), know(5), know(6)), linkOf(2, 0, 3, 0), linkOf(1, 0, 0, 7))
}

func TestDoSettle(t *testing.T) {
	clos, _ := impl.Clos(2, 2, 4)
	f := checkReply(t, "the example", clos, settleCmd(), impl.Told{Ok: true, N: 3})
	unchanged(t, "settled before", f, settleCmd(), impl.Told{Ok: true})
	for n := 1; n <= 8; n++ {
		f := checkReply(t, "a line", newFabric(t, numbered(n), linePairs(n), 1), settleCmd(), impl.Told{Ok: true, N: n - 1})
		unchanged(t, "settled before", f, settleCmd(), impl.Told{Ok: true})
	}
	busy := netOf(1, silent(2), linkOf(0, 0, 1, 0))
	busy.Links[0].Ba = repeated(update(nil, nil, impl.Attr{}), 500)
	if got := checkReply(t, "in transit", busy, settleCmd(), impl.Told{Ok: true, N: 1}); inTransit(got) != 0 {
		t.Error("in transit", brief(got))
	}
	never := checkReply(t, "never", neverSettled(), settleCmd(), impl.Told{N: -1})
	if len(never.Nodes[0].Rib.L) != 2 || len(never.Nodes[1].Sent.L) != 1 {
		t.Error("after 60 rounds", brief(never))
	}
	checkReply(t, "never again", never, settleCmd(), impl.Told{N: -1})
}

func TestDoWalk(t *testing.T) {
	clos, _ := impl.Clos(2, 2, 2)
	f := settled(t, clos)
	unchanged(t, "by the first spine", f, walkCmd(0, 512, 0), impl.Told{Ok: true, N: 3, Path: []int{0, 2, 1}})
	unchanged(t, "by the second spine", f, walkCmd(0, 767, 1), impl.Told{Ok: true, N: 3, Path: []int{0, 3, 1}})
	unchanged(t, "the greatest hash", f, walkCmd(0, 512, 65535), impl.Told{Ok: true, N: 3, Path: []int{0, 3, 1}})
	unchanged(t, "from a spine", f, walkCmd(3, 300, 7), impl.Told{Ok: true, N: 2, Path: []int{3, 0}})
	unchanged(t, "one switch alone", f, walkCmd(1, 512, 7), impl.Told{Ok: true, N: 1, Path: []int{1}})
	unchanged(t, "an address of none", f, walkCmd(1, 65535, 7), impl.Told{N: 1, Path: []int{1}})
	unchanged(t, "the address 0", f, walkCmd(2, 0, 0), impl.Told{N: 1, Path: []int{2}})
	unchanged(t, "before it has settled", clos, walkCmd(0, 512, 0), impl.Told{N: 1, Path: []int{0}})
	cut := copied(f)
	cut.Links[2].Up = false
	unchanged(t, "fails on the way", cut, walkCmd(0, 512, 0), impl.Told{N: 2, Path: []int{0, 2}})
	lead := func(as int) impl.Node {
		return nodeOf(as, nil, 0, []impl.Entry{entryOf(impl.Prefix{Len: 0}, 3, impl.Attr{Path: []int{9}})}, nil)
	}
	endless := netOf(1, []impl.Node{lead(1), lead(2)}, linkOf(0, 3, 1, 3))
	for _, addr := range []int{0, 65535} {
		unchanged(t, "back and forth", endless, walkCmd(1, addr, 0), impl.Told{N: 10, Path: []int{1, 0, 1, 0, 1, 0, 1, 0, 1, 0}})
	}
}

// runOf is the reference for Run with valid arguments.
func runOf(f impl.Fabric, l []impl.Cmd) (impl.Fabric, []impl.Told) {
	var replies []impl.Told
	for _, c := range l {
		var told impl.Told
		f, told = doOf(f, c)
		replies = append(replies, told)
	}
	return f, replies
}

func checkRun(t *testing.T, f impl.Fabric, l ...impl.Cmd) (impl.Fabric, []impl.Told) {
	t.Helper()
	want, replies := runOf(f, l)
	got, told, ok := impl.Run(f, l)
	if !ok || !sameReplies(told, replies) || !sameFabric(got, want) || !impl.FabricOk(got) {
		t.Fatal(brief(f), l, "gives", brief(got), told, ok, "and not", brief(want), replies)
	}
	return got, told
}

func checkNotRun(t *testing.T, why string, f impl.Fabric, l ...impl.Cmd) {
	t.Helper()
	if got, told, ok := impl.Run(f, l); ok || len(told) > 0 || !isZeroFabric(got) {
		t.Fatal(why, brief(f), l, brief(got), told, ok)
	}
}

// randomScript has valid commands. There are about as many deliveries as all other commands.
func randomScript(r *rand.Rand, f impl.Fabric, n int) []impl.Cmd {
	var l []impl.Cmd
	good := goodCmds(f)
	for range n {
		c := good[r.Intn(len(good))]
		if len(f.Links) > 0 && r.Intn(2) == 0 {
			c = deliverCmd(r.Intn(len(f.Links)), r.Intn(2) == 0)
		}
		l = append(l, c)
	}
	return l
}

func TestRun(t *testing.T) {
	r := rand.New(rand.NewSource(71))
	for i, f := range goodFabrics(t) {
		if got, told := checkRun(t, f); !sameFabric(got, f) || len(told) != 0 {
			t.Fatal("no command", brief(f))
		}
		for _, n := range []int{1, i%19 + 1, 20} {
			checkRun(t, f, randomScript(r, f, n)...)
		}
	}
}

func TestRunLengths(t *testing.T) {
	r := rand.New(rand.NewSource(72))
	for _, f := range someFabrics(t) {
		for n := range 21 {
			checkRun(t, f, randomScript(r, f, n)...)
		}
		for _, n := range []int{21, 22, 40, 60, 256, 276, 1000} {
			checkNotRun(t, "too many", f, randomScript(r, f, n)...)
			checkNotRun(t, "too many", f, slices.Repeat([]impl.Cmd{talkCmd(0)}, n)...)
		}
	}
}

func TestRunInvalid(t *testing.T) {
	r := rand.New(rand.NewSource(73))
	for _, f := range someFabrics(t) {
		bad := badCmds(f)
		for i, c := range bad {
			checkNotRun(t, "alone", f, c)
			n := i%19 + 2
			l := randomScript(r, f, n)
			for _, at := range []int{0, n - 1, r.Intn(n)} {
				wrong := slices.Clone(l)
				wrong[at] = c
				checkNotRun(t, "one is not valid", f, wrong...)
			}
		}
		checkNotRun(t, "none is valid", f, bad[:20]...)
		checkNotRun(t, "too many that are not valid", f, bad[:30]...)
	}
	for _, f := range badFabrics() {
		checkNotRun(t, "no command", f)
		checkNotRun(t, "one command", f, settleCmd())
		checkNotRun(t, "all commands", f, lastCmds(netOf(2, silent(1), linkOf(0, 0, 0, 0)))...)
		checkNotRun(t, "too many commands", f, slices.Repeat([]impl.Cmd{talkCmd(0)}, 21)...)
	}
}

// Every position of an invalid command in a script of every length.
func TestRunInvalidAnywhere(t *testing.T) {
	f := plainFabric()
	for n := 1; n <= 20; n++ {
		for at := range n {
			for _, c := range []impl.Cmd{{Kind: 6}, {Kind: -1}, {Kind: impl.CmTalk, At: 4}, {Kind: impl.CmSettle, On: true}, {Kind: impl.CmWalk, Hash: 65536}} {
				l := slices.Repeat([]impl.Cmd{markCmd(1, true)}, n)
				l[at] = c
				checkNotRun(t, "one is not valid", f, l...)
			}
		}
	}
}

func TestRunExample(t *testing.T) {
	clos, _ := impl.Clos(2, 2, 2)
	f, told := checkRun(t, clos, talkCmd(0), deliverCmd(1, true), deliverCmd(1, true), walkCmd(3, 256, 0), settleCmd(), walkCmd(0, 512, 1),
		markCmd(3, true), settleCmd(), walkCmd(0, 512, 1), turnCmd(0, false), settleCmd(), walkCmd(0, 512, 1), turnCmd(1, false), settleCmd(), walkCmd(0, 512, 1))
	want := []impl.Told{{Ok: true, N: 2}, {Ok: true}, {}, {Ok: true, N: 2, Path: []int{3, 0}}, {Ok: true, N: 3}, {Ok: true, N: 3, Path: []int{0, 3, 1}},
		{Ok: true}, {Ok: true, N: 1}, {Ok: true, N: 3, Path: []int{0, 2, 1}}, {Ok: true}, {Ok: true, N: 2}, {Ok: true, N: 3, Path: []int{0, 3, 1}},
		{Ok: true}, {Ok: true, N: 2}, {N: 1, Path: []int{0}}}
	if !sameReplies(told, want) || !f.Nodes[3].Drain || f.Links[0].Up || f.Links[1].Up || !impl.Settled(f) {
		t.Error(brief(f), told)
	}
}

func TestDeskConstants(t *testing.T) {
	const script, turn, mark, talk, deliver, settle, walk int8 = impl.MaxScript, impl.CmTurn, impl.CmMark, impl.CmTalk, impl.CmDeliver, impl.CmSettle, impl.CmWalk
	if got := show([]int8{script, turn, mark, talk, deliver, settle, walk}); got != "[20 0 1 2 3 4 5]" {
		t.Error(got)
	}
}
