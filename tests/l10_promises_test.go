package tests

import (
	"math/rand"
	"slices"
	"testing"

	"loop.example/g00557/impl"
)

// oneAtATime executes each command on the fabric that the one before it returned.
func oneAtATime(t *testing.T, f impl.Fabric, l []impl.Cmd) (impl.Fabric, []impl.Told) {
	t.Helper()
	var replies []impl.Told
	for _, c := range l {
		if !impl.CmdOk(f, c) {
			t.Fatal("no longer valid", brief(f), c)
		}
		var told impl.Told
		f, told = impl.Do(f, c)
		replies = append(replies, told)
	}
	return f, replies
}

func checkOneByOne(t *testing.T, f impl.Fabric, l ...impl.Cmd) (impl.Fabric, []impl.Told) {
	t.Helper()
	want, replies := oneAtATime(t, f, l)
	got, told, ok := impl.Run(f, l)
	if !ok || len(told) != len(l) || !sameReplies(told, replies) || !sameFabric(got, want) {
		t.Fatal(brief(f), l, "gives", brief(got), told, ok, "and one at a time", brief(want), replies)
	}
	return got, told
}

// Promise 15: a script gives what its commands give one at a time.
func TestPromise15OneByOne(t *testing.T) {
	r := rand.New(rand.NewSource(74))
	refused := 0
	for _, f := range goodFabrics(t) {
		for _, n := range []int{0, 1, 2, 7, 20} {
			_, told := checkOneByOne(t, f, randomScript(r, f, n)...)
			for i, x := range told {
				if i < n-1 && !x.Ok {
					refused++
				}
			}
		}
	}
	if refused < 500 {
		t.Error("few replies are not Ok", refused)
	}
}

// Promise 15: all scripts of up to four commands, of small fabrics.
func TestPromise15AllScripts(t *testing.T) {
	f := newFabric(t, numbered(2), linePairs(2), 1)
	all := []impl.Cmd{turnCmd(0, false), turnCmd(0, true), deliverCmd(0, true), deliverCmd(0, false), markCmd(0, true), talkCmd(0), talkCmd(1), settleCmd(), walkCmd(0, 512, 0)}
	var extend func(l []impl.Cmd)
	extend = func(l []impl.Cmd) {
		checkOneByOne(t, f, l...)
		if len(l) == 4 {
			return
		}
		for _, c := range all {
			extend(append(l[:len(l):len(l)], c))
		}
	}
	extend(nil)
}

// The guarantee: it does not matter where a script is divided into two.
func TestDeskGuarantee(t *testing.T) {
	r := rand.New(rand.NewSource(75))
	for _, f := range someFabrics(t) {
		l := randomScript(r, f, 20)
		want, replies, ok := impl.Run(f, l)
		for at := range len(l) + 1 {
			first, before, fine := impl.Run(f, l[:at])
			got, after, finer := impl.Run(first, l[at:])
			if !ok || !fine || !finer || !sameFabric(got, want) || !sameReplies(slices.Concat(before, after), replies) {
				t.Fatal(brief(f), l, at, before, after, replies)
			}
		}
	}
}

// A command whose reply is not Ok does not end a script: what comes after it is executed.
func TestPromise15AfterRefusal(t *testing.T) {
	full := netOf(1, numbered(2), linkOf(0, 0, 1, 0))
	full.Links[0].Ab = repeated(plainUpdate(), 500)
	for why, x := range map[string]struct {
		f impl.Fabric
		c impl.Cmd
	}{
		"no room":       {full, talkCmd(0)},
		"no message":    {full, deliverCmd(0, false)},
		"never settles": {neverSettled(), settleCmd()},
		"no entry":      {full, walkCmd(0, 512, 3)},
	} {
		for before := range 19 {
			l := slices.Concat(slices.Repeat([]impl.Cmd{markCmd(1, false)}, before), []impl.Cmd{x.c, markCmd(0, true), markCmd(1, true)})[:min(before+3, 20)]
			got, told := checkOneByOne(t, x.f, l...)
			if told[before].Ok || !told[before+1].Ok || !got.Nodes[0].Drain || got.Nodes[1].Drain != (before < 18) {
				t.Error(why, brief(got), told)
			}
		}
	}
	f, told := checkOneByOne(t, full, talkCmd(0), deliverCmd(0, true), talkCmd(0), talkCmd(0), deliverCmd(0, false), talkCmd(1), deliverCmd(0, false), walkCmd(0, 512, 0))
	want := []impl.Told{{}, {Ok: true}, {Ok: true, N: 1}, {Ok: true}, {}, {Ok: true, N: 1}, {Ok: true}, {Ok: true, N: 2, Path: []int{0, 1}}}
	if !sameReplies(told, want) || len(f.Links[0].Ab) != 500 || len(f.Links[0].Ba) != 0 {
		t.Error(brief(f), told)
	}
}

// Commands whose reply is not Ok, and walks, may be left out: the fabric is the same. Only a fabric that does not settle is another one.
func TestPromise15LeftOut(t *testing.T) {
	r := rand.New(rand.NewSource(76))
	for _, f := range goodFabrics(t) {
		l := randomScript(r, f, 20)
		want, told, _ := impl.Run(f, l)
		var rest []impl.Cmd
		for i, c := range l {
			if told[i].Ok && c.Kind != impl.CmWalk || c.Kind == impl.CmSettle {
				rest = append(rest, c)
			}
		}
		if got, _, ok := impl.Run(f, rest); !ok || !sameFabric(got, want) {
			t.Fatal(brief(f), l, rest)
		}
	}
}

// Scripts as promises 11 to 13 have them: a fabric that is disturbed settles, and walks arrive by the shortest path.
func TestPromise15Converges(t *testing.T) {
	r := rand.New(rand.NewSource(77))
	for range 40 {
		f := randomBuilt(t, r, evenPrefixes(), false)
		l := slices.DeleteFunc(randomScript(r, f, 19), func(c impl.Cmd) bool { return c.Kind == impl.CmMark })
		f, told := checkOneByOne(t, f, append(l, settleCmd())...)
		if !told[len(l)].Ok || !impl.Settled(f) || !impl.Synced(f) {
			t.Fatal(brief(f), told)
		}
		for _, addr := range addrsOf(f) {
			for node := range f.Nodes {
				_, told := checkOneByOne(t, f, walkCmd(node, addr, r.Intn(65536)))
				if hops := impl.Hops(f, node, addr); told[0].Ok != (hops >= 0) || told[0].Ok && told[0].N != hops+1 {
					t.Fatal(brief(f), node, addr, told, hops)
				}
			}
		}
	}
}
