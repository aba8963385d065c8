package tests

import (
	"math/rand"
	"slices"
	"testing"

	"loop.example/g00557/impl"
)

// What lies behind the length of a slice neither spoils a script, a switch or a fabric, nor belongs to it.
func TestDeskBehindLength(t *testing.T) {
	f := settled(t, newFabric(t, numbered(2), linePairs(2), 1))
	l := slices.Concat([]impl.Cmd{walkCmd(0, 512, 1), talkCmd(1), markCmd(0, true)}, slices.Repeat([]impl.Cmd{{Kind: 9}}, 30))
	for n := range 4 {
		if _, told := checkRun(t, f, l[:n]...); len(told) != n {
			t.Error(n, told)
		}
	}
	checkNotRun(t, "within the length", f, l[:4]...)
	long := slices.Repeat([]impl.Cmd{markCmd(1, true)}, 30)
	checkRun(t, f, long[:20]...)
	e := entryOf(impl.Prefix{Addr: 256, Len: 8}, 3, impl.Attr{Path: []int{7, -1}[:1], Comm: []int{5, 4}[:1]})
	n := impl.Node{As: 9, Own: []impl.Prefix{{Addr: -1}}[:0], Rib: impl.Rib{L: []impl.Entry{e, e}[:1]}, Sent: impl.Rib{L: []impl.Entry{{}}[:0]}}
	checkNodeText(t, n, "as 9\n1.0/8 if3 pref 0 bw 0 path 7 marks 5\n")
	links := []impl.Link{linkOf(0, 0, 1, 0), linkOf(5, 5, 5, 5)}
	links[0].Ab = []impl.Msg{plainUpdate(), {}}[:1]
	g := netOf(1, []impl.Node{n, {As: 8}, {}}[:2], links[:1]...)
	g.Links = links[:1]
	checkFabricText(t, g, "as 9\n1.0/8 if3 pref 0 bw 0 path 7 marks 5\nas 8\nlink 0 1 1 0\n")
	for _, c := range goodCmds(g) {
		checkDo(t, g, c)
	}
}

// deskCase has a script as well, which lies in an array that has more behind it.
type deskCase struct {
	*fabricCase
	node  impl.Node
	cmds  []impl.Cmd
	whole []impl.Cmd
}

// newDeskCase has memory of its own: what is filled to look for memory in common is not used again.
func newDeskCase(from *fabricCase, l []impl.Cmd) *deskCase {
	f := newFabricCase(from.f, from.at, from.addr, from.on, nil)
	whole := slices.Concat([]impl.Cmd{{Kind: -1}}, l, []impl.Cmd{{Kind: -2}, {Kind: -3}})
	c := &deskCase{fabricCase: f, cmds: whole[1 : 1+len(l)], whole: whole}
	if len(f.f.Nodes) > 0 {
		c.node = f.f.Nodes[f.at%len(f.f.Nodes)]
	}
	return c
}

func (c *deskCase) shown() string {
	return c.fabricCase.shown() + show(c.whole)
}

type deskResult struct {
	fabricResult
	told []impl.Told
	text []byte
}

func deskResultOf(f impl.Fabric, told ...impl.Told) deskResult {
	x := deskResult{fabricResult: fabricResult{f: f}, told: told}
	for _, reply := range told {
		x.paths = append(x.paths, reply.Path)
	}
	return x
}

func deskCalls() map[string]func(*deskCase) deskResult {
	calls := map[string]func(*deskCase) deskResult{
		"CmdOk": func(c *deskCase) deskResult {
			for _, x := range c.cmds {
				impl.CmdOk(c.f, x)
			}
			return deskResult{}
		},
		"Run": func(c *deskCase) deskResult {
			f, told, _ := impl.Run(c.f, c.cmds)
			x := deskResultOf(f, told...)
			x.told = told
			return x
		},
		"NodeText":   func(c *deskCase) deskResult { return deskResult{text: impl.NodeText(c.node)} },
		"FabricText": func(c *deskCase) deskResult { return deskResult{text: impl.FabricText(c.f)} },
	}
	for at := range 8 {
		calls["Do "+show(at)] = func(c *deskCase) deskResult {
			if at >= len(c.cmds) {
				return deskResult{}
			}
			return deskResultOf(impl.Do(c.f, c.cmds[at]))
		}
	}
	return calls
}

// deskCases have scripts that have commands of all kinds at their beginning.
func deskCases(t *testing.T) []*deskCase {
	t.Helper()
	r := rand.New(rand.NewSource(78))
	var l []*deskCase
	for i, f := range fabricCases(t) {
		if !impl.FabricOk(f.f) {
			l = append(l, newDeskCase(f, nil), newDeskCase(f, lastCmds(plainFabric())))
			continue
		}
		script := append(lastCmds(f.f), walkCmd(0, f.addr, i))
		if len(f.f.Links) > 0 {
			script = append(script, deliverCmd(0, i%2 == 0))
		}
		script = append(script, randomScript(r, f.f, 20-len(script))...)
		l = append(l, newDeskCase(f, script))
		switch i % 8 {
		case 0:
			l = append(l, newDeskCase(f, nil))
		case 1:
			l = append(l, newDeskCase(f, append(script, talkCmd(0))))
		case 2:
			l = append(l, newDeskCase(f, append(slices.Clone(script[:10]), impl.Cmd{Kind: 6})))
		case 3:
			l = append(l, newDeskCase(f, []impl.Cmd{walkCmd(0, f.addr, i), walkCmd(0, f.addr, i), walkCmd(0, f.addr, i)}))
		}
	}
	return l
}

func TestDeskArgumentsKept(t *testing.T) {
	checkKept(t, deskCases(t), deskCalls())
}

func TestDeskResultsAreNew(t *testing.T) {
	for name, call := range deskCalls() {
		for i, c := range deskCases(t) {
			a, b := call(c), call(c)
			if show(a) != show(b) {
				t.Fatal(name, "differs from call to call", i)
			}
			checkApart(t, name, [][]byte{a.text, b.text}, func(i int) byte { return byte(1 + i) })
			checkApart(t, name, [][]impl.Cmd{c.whole}, func(i int) impl.Cmd { return impl.Cmd{At: 1000000} })
			checkApartBy(t, name, [][]impl.Told{a.told, b.told}, func(i int) impl.Told { return impl.Told{N: i} }, func(x, y impl.Told) bool { return x.N == y.N })
			checkFabricsApart(t, name, c.fabricCase, a.fabricResult, b.fabricResult)
		}
	}
}

// Where the arguments share memory with each other, the parts of the result do not.
func TestDeskSharedArguments(t *testing.T) {
	n := nodeOf(9, []impl.Prefix{{Addr: 256, Len: 8}}, 0, manyEntries(4, 3, 9), manyEntries(4, 3, 0))
	f := netOf(2, []impl.Node{n, n, n}, linkOf(0, 0, 1, 0), linkOf(1, 1, 2, 0), linkOf(2, 1, 0, 1))
	transit := repeated(plainUpdate(), 4)
	for i := range f.Links {
		f.Links[i].Ab, f.Links[i].Ba = transit, transit[:3]
	}
	for _, l := range [][]impl.Cmd{nil, {walkCmd(0, 256, 1), walkCmd(0, 256, 1)}, {talkCmd(2), deliverCmd(0, true), turnCmd(1, false), markCmd(1, true), walkCmd(2, 0, 0)}, {settleCmd(), talkCmd(0)}} {
		c := &deskCase{fabricCase: &fabricCase{f: f}, node: n, cmds: l}
		for name, call := range deskCalls() {
			checkFabricsApart(t, name, &fabricCase{}, call(c).fabricResult, deskResult{}.fabricResult)
		}
	}
}
