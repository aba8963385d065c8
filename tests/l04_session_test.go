package tests

import (
	"fmt"
	"math"
	"math/rand"
	"slices"
	"strings"
	"testing"

	"loop.example/g00557/impl"
)

func confsOf(ases, ids, holds, peers []int) []impl.Conf {
	var l []impl.Conf
	for _, as := range ases {
		for _, id := range ids {
			for _, hold := range holds {
				for _, peer := range peers {
					l = append(l, impl.Conf{As: as, Id: id, Hold: hold, Peer: peer})
				}
			}
		}
	}
	return l
}

func goodConfs() []impl.Conf {
	return confsOf([]int{1, 2, 256, 65535}, []int{1, 2, 255}, []int{3, 4, 5, 6, 9, 255}, []int{0, 1, 2, 65535})
}

// fewConfs have each Hold that a third of it depends on, the longest one, and each kind of Peer: any, another one, the own one.
func fewConfs() []impl.Conf {
	return confsOf([]int{2}, []int{2}, []int{3, 4, 5, 6, 9, 255}, []int{0, 1, 2, 65535})
}

// badConfs are valid but for one thing.
func badConfs() []impl.Conf {
	l := []impl.Conf{{}, {As: 5, Id: 7, Hold: 9, Peer: -1}, {As: 5, Id: 7, Hold: 2}, {As: 5, Id: 7, Hold: 1}, {Id: 7, Hold: 9, Peer: 6}}
	for _, n := range badNumbers() {
		l = append(l, impl.Conf{As: n, Id: 7, Hold: 9}, impl.Conf{As: n, Id: 7, Hold: 9, Peer: 6})
		if n != 0 {
			l = append(l, impl.Conf{As: 5, Id: 7, Hold: 9, Peer: n})
		}
	}
	for _, n := range []int{0, -1, 256, 257, 259, 1<<32 + 9, math.MaxInt, math.MinInt} {
		l = append(l, impl.Conf{As: 5, Id: n, Hold: 9}, impl.Conf{As: 5, Id: 7, Hold: n}, impl.Conf{As: 5, Id: n, Hold: 9, Peer: 6}, impl.Conf{As: 5, Id: 7, Hold: n, Peer: 6})
	}
	return l
}

// edges are all numbers from low to high if there are few, and else those near both ends.
func edges(low, high int) []int {
	var l []int
	for n := low; n <= high; n++ {
		if n < low+4 || n > high-5 {
			l = append(l, n)
		}
	}
	return l
}

func peersOf(c impl.Conf) []int {
	if c.Peer != 0 {
		return []int{c.Peer}
	}
	return []int{1, 5, 65535}
}

// sessionsOf are the valid sessions of a Conf, all of them for few values of Peer if Hold is below 10.
func sessionsOf(c impl.Conf) []impl.Session {
	l := []impl.Session{{}, {State: impl.SsConnect}}
	for _, heard := range edges(0, c.Hold-1) {
		l = append(l, impl.Session{State: impl.SsSent, Hold: c.Hold, Heard: heard})
	}
	for _, hold := range edges(3, c.Hold) {
		for _, heard := range edges(0, hold-1) {
			for _, keep := range edges(1, hold/3) {
				for _, peer := range peersOf(c) {
					for _, state := range []int{impl.SsConfirm, impl.SsUp} {
						l = append(l, impl.Session{State: state, Hold: hold, Heard: heard, Keep: keep, Peer: peer})
					}
				}
			}
		}
	}
	return l
}

// badSessions are valid for As 5, Id 7, Hold 9 and any Peer but for one thing.
func badSessions() []impl.Session {
	l := []impl.Session{
		{State: 2}, {State: 3}, {State: 4}, {State: 2, Hold: 8}, {State: 2, Hold: 10}, {State: 2, Hold: 3}, {State: 2, Hold: 9, Heard: 9}, {State: 2, Hold: 9, Heard: -1},
		{State: 2, Hold: 9, Keep: 3}, {State: 2, Hold: 9, Keep: 1}, {State: 2, Hold: 9, Peer: 1}, {State: 2, Hold: 9, Keep: -1}, {State: 2, Hold: 9, Peer: -1},
	}
	for _, n := range []int{-1, -2, 5, 6, 1 << 32, 1<<32 + 4, math.MaxInt, math.MinInt} {
		l = append(l, impl.Session{State: n}, impl.Session{State: n, Hold: 9}, impl.Session{State: n, Hold: 9, Keep: 3, Peer: 1})
	}
	for _, n := range []int{1, 3, 9, -1, 1 << 32, math.MinInt} {
		for state := range 2 {
			l = append(l, impl.Session{State: state, Hold: n}, impl.Session{State: state, Heard: n}, impl.Session{State: state, Keep: n}, impl.Session{State: state, Peer: n})
		}
	}
	for state := 3; state <= 4; state++ {
		l = append(l, impl.Session{State: state, Hold: 8, Keep: 3, Peer: 1}, impl.Session{State: state, Hold: 5, Keep: 2, Peer: 1}, impl.Session{State: state, Hold: 8, Heard: 8, Keep: 2, Peer: 1})
		for _, n := range []int{0, 1, 2, -9, 10, 255, 1 << 32, 1<<32 + 9, math.MaxInt, math.MinInt} {
			l = append(l, impl.Session{State: state, Hold: n, Keep: 1, Peer: 1})
		}
		for _, n := range []int{-1, 9, 10, 1 << 32, math.MaxInt, math.MinInt} {
			l = append(l, impl.Session{State: state, Hold: 9, Heard: n, Keep: 1, Peer: 1})
		}
		for _, n := range []int{0, -1, 4, 9, 1 << 32, 1<<32 + 1, math.MaxInt, math.MinInt} {
			l = append(l, impl.Session{State: state, Hold: 9, Keep: n, Peer: 1})
		}
		for _, n := range badNumbers() {
			l = append(l, impl.Session{State: state, Hold: 9, Keep: 3, Peer: n})
		}
	}
	return l
}

func message(m impl.Msg) impl.Event {
	return impl.Event{Kind: impl.EvMsg, Msg: m}
}

// opensFor are messages that a Conf accepts or refuses because of As, Id or Peer, with a Hold below and above its own one.
func opensFor(c impl.Conf) []impl.Msg {
	var l []impl.Msg
	for _, as := range []int{1, 2, 3, 65535, c.As, max(1, c.Peer)} {
		for _, id := range []int{1, 3, 255, c.Id} {
			for _, hold := range []int{3, 4, max(3, c.Hold-1), c.Hold, min(255, c.Hold+1), 255} {
				l = append(l, impl.Msg{Kind: impl.MsOpen, As: as, Hold: hold, Id: id})
			}
		}
	}
	return l
}

func goodEvents(c impl.Conf) []impl.Event {
	l := []impl.Event{{Kind: impl.EvStart}, {Kind: impl.EvStop}, {Kind: impl.EvLink}, {Kind: impl.EvLost}, {Kind: impl.EvTick}}
	empty := impl.Msg{Gone: []impl.Prefix{}, Came: []impl.Prefix{}, Attr: impl.Attr{Path: []int{}, Comm: []int{}}}
	for _, e := range l[:5] {
		l = append(l, impl.Event{Kind: e.Kind, Msg: empty})
	}
	for code := impl.ErHead; code <= impl.ErCease; code++ {
		l = append(l, impl.Event{Kind: impl.EvError, Error: code}, impl.Event{Kind: impl.EvError, Msg: empty, Error: code}, message(impl.Msg{Kind: impl.MsNotify, Error: code}))
	}
	for _, m := range slices.Concat(plainMsgs(), fewMsgs()[:12], opensFor(c)) {
		l = append(l, message(m))
	}
	return l
}

// partMsgs have one field that is not zero.
func partMsgs() []impl.Msg {
	return []impl.Msg{
		{Kind: impl.MsKeep}, {Kind: -1}, {As: 1}, {Hold: 3}, {Id: 1}, {Gone: make([]impl.Prefix, 1)}, {Came: make([]impl.Prefix, 1)}, {Error: 1}, {Error: -1},
		{Attr: impl.Attr{Path: []int{0}}}, {Attr: impl.Attr{Pref: 1}}, {Attr: impl.Attr{Comm: []int{0}}}, {Attr: impl.Attr{Bw: 1}},
	}
}

// badEvents are valid but for one thing.
func badEvents() []impl.Event {
	var l []impl.Event
	for _, n := range []int{-1, -2, 7, 8, 1 << 32, 1<<32 + 4, math.MaxInt, math.MinInt} {
		l = append(l, impl.Event{Kind: n}, impl.Event{Kind: n, Msg: plainMsgs()[1]}, impl.Event{Kind: n, Error: 1}, message(impl.Msg{Kind: n}))
	}
	for _, n := range []int{0, -1, 7, 8, 1<<32 + 1, math.MaxInt, math.MinInt} {
		l = append(l, impl.Event{Kind: impl.EvError, Error: n})
		for kind := impl.EvStart; kind < impl.EvError && n != 0; kind++ {
			l = append(l, impl.Event{Kind: kind, Error: n}, impl.Event{Kind: kind, Msg: plainMsgs()[1], Error: n})
		}
	}
	for kind := impl.EvStart; kind <= impl.EvError; kind++ {
		for _, m := range append(partMsgs(), plainMsgs()...) {
			switch {
			case kind == impl.EvError:
				l = append(l, impl.Event{Kind: kind, Msg: m, Error: 2})
			case kind != impl.EvMsg:
				l = append(l, impl.Event{Kind: kind, Msg: m})
			}
		}
		if kind < impl.EvError {
			l = append(l, impl.Event{Kind: kind, Error: 1})
		}
	}
	for _, m := range badMsgs() {
		l = append(l, message(m))
	}
	for _, m := range plainMsgs() {
		l = append(l, impl.Event{Kind: impl.EvMsg, Msg: m, Error: 6})
	}
	return l
}

func TestConfOk(t *testing.T) {
	for _, c := range append(goodConfs(), impl.Conf{As: 65535, Id: 255, Hold: 255, Peer: 65535}, impl.Conf{As: 1, Id: 1, Hold: 3, Peer: 1}) {
		if !impl.ConfOk(c) {
			t.Error(c)
		}
	}
	for _, c := range badConfs() {
		if impl.ConfOk(c) {
			t.Error(c)
		}
	}
	for n := -300; n < 66000; n++ {
		for i, c := range []impl.Conf{{As: n, Id: 7, Hold: 9}, {As: 5, Id: n, Hold: 9}, {As: 5, Id: 7, Hold: n}, {As: 5, Id: 7, Hold: 9, Peer: n}} {
			low, high := []int{1, 1, 3, 0}[i], []int{65535, 255, 255, 65535}[i]
			if impl.ConfOk(c) != (n >= low && n <= high) {
				t.Fatal(c)
			}
		}
	}
}

func TestSessionOk(t *testing.T) {
	for _, c := range append(goodConfs()[:24], fewConfs()...) {
		for _, s := range sessionsOf(c) {
			if !impl.SessionOk(c, s) {
				t.Fatal(c, s)
			}
			for _, bad := range badConfs() {
				if impl.SessionOk(bad, s) {
					t.Fatal(bad, s)
				}
			}
		}
	}
	for _, s := range badSessions() {
		if impl.SessionOk(impl.Conf{As: 5, Id: 7, Hold: 9}, s) {
			t.Error(s)
		}
	}
}

// All sessions with small fields are valid exactly if they are among those that sessionsOf builds.
func TestSessionOkEverySmall(t *testing.T) {
	for _, c := range confsOf([]int{2}, []int{2}, []int{3, 4, 5, 6, 7, 9}, []int{0, 1, 2, 5, 65535}) {
		valid := map[impl.Session]bool{}
		for _, s := range sessionsOf(c) {
			valid[s] = true
		}
		for state := -1; state <= 5; state++ {
			for hold := -1; hold <= c.Hold+1; hold++ {
				for heard := -1; heard <= c.Hold+1; heard++ {
					for keep := -1; keep <= 4; keep++ {
						for _, peer := range []int{-1, 0, 1, 5, 65535, 65536} {
							s := impl.Session{State: state, Hold: hold, Heard: heard, Keep: keep, Peer: peer}
							if impl.SessionOk(c, s) != valid[s] {
								t.Fatal(c, s)
							}
						}
					}
				}
			}
		}
	}
}

func TestEventOk(t *testing.T) {
	for _, e := range goodEvents(impl.Conf{As: 5, Id: 7, Hold: 9}) {
		if !impl.EventOk(e) {
			t.Error(e)
		}
	}
	for _, m := range goodMsgs() {
		if !impl.EventOk(message(m)) {
			t.Error(m)
		}
	}
	for _, e := range badEvents() {
		if impl.EventOk(e) {
			t.Error(e)
		}
	}
}

func TestOpenOf(t *testing.T) {
	for _, c := range goodConfs() {
		m, ok := impl.OpenOf(c)
		if !ok || !sameMsg(m, impl.Msg{Kind: impl.MsOpen, As: c.As, Hold: c.Hold, Id: c.Id}) {
			t.Error(c, m, ok)
		}
		if !impl.MsgOk(m) || string(impl.MsgText(m)) != fmt.Sprint("open ", c.As, " ", c.Hold, " ", c.Id) {
			t.Error(c, m)
		}
	}
	for _, c := range badConfs() {
		if m, ok := impl.OpenOf(c); ok || !isZeroMsg(m) {
			t.Error(c, m, ok)
		}
	}
}

// welcome is the reference for Accepts with valid arguments.
func welcome(c impl.Conf, m impl.Msg) bool {
	wanted := m.Kind == impl.MsOpen && c.As != m.As && c.Id != m.Id
	if c.Peer == 0 {
		return wanted
	}
	return wanted && c.Peer == m.As
}

func TestAccepts(t *testing.T) {
	for _, c := range goodConfs() {
		for _, m := range slices.Concat(plainMsgs(), opensFor(c), fewMsgs()[:10]) {
			if impl.Accepts(c, m) != welcome(c, m) {
				t.Fatal(c, m)
			}
		}
	}
	c := impl.Conf{As: 100, Id: 200, Hold: 9}
	for _, m := range badMsgs() {
		if impl.Accepts(c, m) {
			t.Error(m)
		}
	}
	for _, c := range badConfs() {
		for _, as := range []int{1, 5, 6, 100} {
			if impl.Accepts(c, impl.Msg{Kind: impl.MsOpen, As: as, Hold: 9, Id: 100}) {
				t.Error(c, as)
			}
		}
	}
}

func TestAcceptsExamples(t *testing.T) {
	open := impl.Msg{Kind: impl.MsOpen, As: 6, Hold: 9, Id: 8}
	for c, want := range map[impl.Conf]bool{
		{As: 5, Id: 7, Hold: 3}: true, {As: 5, Id: 7, Hold: 255, Peer: 6}: true, {As: 5, Id: 7, Hold: 9, Peer: 5}: false, {As: 5, Id: 7, Hold: 9, Peer: 8}: false,
		{As: 6, Id: 7, Hold: 9}: false, {As: 5, Id: 8, Hold: 9}: false, {As: 6, Id: 8, Hold: 9}: false, {As: 8, Id: 6, Hold: 9}: true,
		{As: 6, Id: 7, Hold: 9, Peer: 6}: false, {As: 5, Id: 8, Hold: 9, Peer: 6}: false, {As: 5, Id: 5, Hold: 9, Peer: 6}: true,
	} {
		if impl.Accepts(c, open) != want {
			t.Error(c)
		}
	}
}

// sentOf shows messages by their texts, and those that are not valid as such.
func sentOf(l []impl.Msg) string {
	var texts []string
	for _, m := range l {
		s := string(impl.MsgText(m))
		if s == "" {
			s = "invalid " + show(m)
		}
		texts = append(texts, s)
	}
	return strings.Join(texts, "; ")
}

func closedOf(s impl.Session, code int) (impl.Session, string) {
	if s.State == impl.SsIdle || s.State == impl.SsConnect {
		return impl.Session{}, ""
	}
	return impl.Session{}, fmt.Sprint("notify ", code)
}

// hearOf is the part of stepOf for messages. A row belongs to a state, its letters to the kinds open, update, notify, keep.
func hearOf(c impl.Conf, s impl.Session, m impl.Msg) (impl.Session, string) {
	rows := []string{"----", "----", "oSzS", "SSzu", "Shzh"}
	switch rows[s.State][m.Kind-1] {
	case 'S':
		return closedOf(s, impl.ErState)
	case 'z':
		return impl.Session{}, ""
	case 'u':
		s.State, s.Heard = impl.SsUp, 0
	case 'h':
		s.Heard = 0
	case 'o':
		if !welcome(c, m) {
			return closedOf(s, impl.ErOpen)
		}
		lesser := c.Hold
		if m.Hold < lesser {
			lesser = m.Hold
		}
		return impl.Session{State: impl.SsConfirm, Hold: lesser, Heard: 0, Keep: lesser / 3, Peer: m.As}, "keep"
	}
	return s, ""
}

func tickOf(s impl.Session) (impl.Session, string) {
	if s.State < impl.SsSent {
		return s, ""
	}
	s.Heard++
	if s.Heard >= s.Hold {
		return closedOf(s, impl.ErHold)
	}
	if s.State == impl.SsSent {
		return s, ""
	}
	if s.Keep == 1 {
		s.Keep = s.Hold / 3
		return s, "keep"
	}
	s.Keep--
	return s, ""
}

// stepOf is the reference for SessStep with valid arguments.
func stepOf(c impl.Conf, s impl.Session, e impl.Event) (impl.Session, string) {
	switch e.Kind {
	case impl.EvStart:
		if s.State == impl.SsIdle {
			return impl.Session{State: impl.SsConnect}, ""
		}
	case impl.EvLink:
		if s.State == impl.SsConnect {
			return impl.Session{State: impl.SsSent, Hold: c.Hold}, fmt.Sprint("open ", c.As, " ", c.Hold, " ", c.Id)
		}
	case impl.EvStop:
		return closedOf(s, impl.ErCease)
	case impl.EvError:
		return closedOf(s, e.Error)
	case impl.EvLost:
		return impl.Session{}, ""
	case impl.EvMsg:
		return hearOf(c, s, e.Msg)
	case impl.EvTick:
		return tickOf(s)
	}
	return s, ""
}

// Every state with every kind of event and of message.
func TestSessStep(t *testing.T) {
	for _, c := range fewConfs() {
		events := goodEvents(c)
		for _, s := range sessionsOf(c) {
			for _, e := range events {
				want, sent := stepOf(c, s, e)
				got, l := impl.SessStep(c, s, e)
				if got != want || sentOf(l) != sent {
					t.Fatal(c, s, e, got, sentOf(l))
				}
			}
		}
	}
}

func TestSessStepExamples(t *testing.T) {
	c := impl.Conf{As: 5, Id: 7, Hold: 9, Peer: 6}
	open := message(impl.Msg{Kind: impl.MsOpen, As: 6, Hold: 7, Id: 8})
	keep, update, notify := message(impl.Msg{Kind: impl.MsKeep}), message(impl.Msg{Kind: impl.MsUpdate}), message(impl.Msg{Kind: impl.MsNotify, Error: 3})
	tick, stop, lost, fail := impl.Event{Kind: impl.EvTick}, impl.Event{Kind: impl.EvStop}, impl.Event{Kind: impl.EvLost}, impl.Event{Kind: impl.EvError, Error: 2}
	for _, x := range []struct {
		s    [5]int
		e    impl.Event
		want [5]int
		sent string
	}{
		{[5]int{}, impl.Event{Kind: impl.EvStart}, [5]int{1}, ""}, {[5]int{1}, impl.Event{Kind: impl.EvStart}, [5]int{1}, ""},
		{[5]int{}, impl.Event{Kind: impl.EvLink}, [5]int{}, ""}, {[5]int{1}, impl.Event{Kind: impl.EvLink}, [5]int{2, 9}, "open 5 9 7"},
		{[5]int{2, 9, 4}, impl.Event{Kind: impl.EvLink}, [5]int{2, 9, 4}, ""}, {[5]int{4, 7, 5, 2, 6}, impl.Event{Kind: impl.EvStart}, [5]int{4, 7, 5, 2, 6}, ""},
		{[5]int{2, 9, 8}, open, [5]int{3, 7, 0, 2, 6}, "keep"}, {[5]int{2, 9, 4}, keep, [5]int{}, "notify 5"}, {[5]int{2, 9, 4}, update, [5]int{}, "notify 5"},
		{[5]int{3, 7, 5, 1, 6}, keep, [5]int{4, 7, 0, 1, 6}, ""}, {[5]int{3, 7, 5, 1, 6}, update, [5]int{}, "notify 5"}, {[5]int{3, 7, 5, 1, 6}, open, [5]int{}, "notify 5"},
		{[5]int{4, 7, 6, 1, 6}, keep, [5]int{4, 7, 0, 1, 6}, ""}, {[5]int{4, 7, 6, 2, 6}, update, [5]int{4, 7, 0, 2, 6}, ""}, {[5]int{4, 7, 6, 2, 6}, open, [5]int{}, "notify 5"},
		{[5]int{}, notify, [5]int{}, ""}, {[5]int{1}, notify, [5]int{1}, ""}, {[5]int{1}, open, [5]int{1}, ""}, {[5]int{2, 9}, notify, [5]int{}, ""},
		{[5]int{3, 7, 0, 2, 6}, notify, [5]int{}, ""}, {[5]int{4, 7, 0, 2, 6}, notify, [5]int{}, ""},
		{[5]int{}, stop, [5]int{}, ""}, {[5]int{1}, stop, [5]int{}, ""}, {[5]int{2, 9}, stop, [5]int{}, "notify 6"}, {[5]int{4, 7, 0, 2, 6}, stop, [5]int{}, "notify 6"},
		{[5]int{}, fail, [5]int{}, ""}, {[5]int{1}, fail, [5]int{}, ""}, {[5]int{2, 9}, fail, [5]int{}, "notify 2"}, {[5]int{3, 7, 0, 2, 6}, fail, [5]int{}, "notify 2"},
		{[5]int{1}, lost, [5]int{}, ""}, {[5]int{2, 9}, lost, [5]int{}, ""}, {[5]int{4, 7, 0, 2, 6}, lost, [5]int{}, ""},
		{[5]int{}, tick, [5]int{}, ""}, {[5]int{1}, tick, [5]int{1}, ""}, {[5]int{2, 9, 7}, tick, [5]int{2, 9, 8}, ""}, {[5]int{2, 9, 8}, tick, [5]int{}, "notify 4"},
		{[5]int{3, 7, 5, 2, 6}, tick, [5]int{3, 7, 6, 1, 6}, ""}, {[5]int{3, 7, 5, 1, 6}, tick, [5]int{3, 7, 6, 2, 6}, "keep"},
		{[5]int{4, 7, 6, 2, 6}, tick, [5]int{}, "notify 4"}, {[5]int{4, 7, 6, 1, 6}, tick, [5]int{}, "notify 4"}, {[5]int{4, 5, 0, 1, 6}, tick, [5]int{4, 5, 1, 1, 6}, "keep"},
	} {
		sessionFrom := func(f [5]int) impl.Session {
			return impl.Session{State: f[0], Hold: f[1], Heard: f[2], Keep: f[3], Peer: f[4]}
		}
		s, l := impl.SessStep(c, sessionFrom(x.s), x.e)
		if s != sessionFrom(x.want) || sentOf(l) != x.sent {
			t.Error(x.s, x.e, s, sentOf(l))
		}
	}
}

func TestSessStepRefused(t *testing.T) {
	c := impl.Conf{As: 5, Id: 7, Hold: 9, Peer: 6}
	s := impl.Session{State: impl.SsSent, Hold: 9, Heard: 8}
	for _, m := range []impl.Msg{
		{Kind: impl.MsOpen, As: 5, Hold: 9, Id: 8}, {Kind: impl.MsOpen, As: 6, Hold: 9, Id: 7}, {Kind: impl.MsOpen, As: 4, Hold: 9, Id: 8}, {Kind: impl.MsOpen, As: 5, Hold: 9, Id: 7},
	} {
		if got, l := impl.SessStep(c, s, message(m)); got != (impl.Session{}) || sentOf(l) != "notify 2" {
			t.Error(m, got, sentOf(l))
		}
	}
}

func TestSessStepInvalid(t *testing.T) {
	check := func(c impl.Conf, s impl.Session, e impl.Event) {
		t.Helper()
		if got, l := impl.SessStep(c, s, e); got != (impl.Session{}) || len(l) > 0 {
			t.Fatal(c, s, e, got, sentOf(l))
		}
	}
	c := impl.Conf{As: 5, Id: 7, Hold: 9}
	events := goodEvents(c)
	for _, s := range badSessions() {
		for _, e := range events {
			check(c, s, e)
		}
	}
	for _, s := range []impl.Session{{}, {State: 1}, {State: 2, Hold: 9}, {State: 3, Hold: 9, Keep: 3, Peer: 1}, {State: 4, Hold: 9, Keep: 3, Peer: 1}} {
		for _, e := range badEvents() {
			check(c, s, e)
		}
		for _, bad := range badConfs() {
			for _, e := range events {
				check(bad, s, e)
			}
		}
	}
	check(impl.Conf{As: 5, Id: 7, Hold: 9, Peer: 6}, impl.Session{State: 4, Hold: 9, Keep: 3, Peer: 1}, impl.Event{Kind: impl.EvStop})
	check(impl.Conf{As: 5, Id: 7, Hold: 8}, impl.Session{State: 4, Hold: 9, Keep: 3, Peer: 1}, impl.Event{Kind: impl.EvStop})
}

// Promise 5: a step leaves a valid session, and what is sent is valid.
func TestPromise5StepLeavesValid(t *testing.T) {
	r := rand.New(rand.NewSource(7))
	for _, c := range fewConfs() {
		events := goodEvents(c)
		var s impl.Session
		seen := map[int]bool{}
		for range 20000 {
			e := events[r.Intn(len(events))]
			switch r.Intn(3) {
			case 0:
				e = impl.Event{Kind: []int{impl.EvStart, impl.EvLink, impl.EvTick}[r.Intn(3)]}
			case 1:
				e = message(impl.Msg{Kind: impl.MsKeep})
				if s.State == impl.SsSent {
					e = message(impl.Msg{Kind: impl.MsOpen, As: peersOf(c)[0], Hold: 3 + r.Intn(253), Id: 9})
				}
			}
			next, l := impl.SessStep(c, s, e)
			if !impl.SessionOk(c, next) {
				t.Fatal("the session is not valid", c, s, e, next)
			}
			for _, m := range l {
				if !impl.MsgOk(m) {
					t.Fatal("the message is not valid", c, s, e, m)
				}
			}
			s = next
			seen[s.State] = true
		}
		// A session whose Conf requires its own AS number of the other end never gets beyond SsSent.
		if c.Peer != c.As && len(seen) != 5 || c.Peer == c.As && len(seen) != 3 {
			t.Error("the states that were reached", c, seen)
		}
		for _, s := range sessionsOf(c) {
			for _, e := range events {
				if next, _ := impl.SessStep(c, s, e); !impl.SessionOk(c, next) {
					t.Fatal(c, s, e, next)
				}
			}
		}
	}
}

func openFor(t *testing.T, c impl.Conf) impl.Msg {
	t.Helper()
	m, ok := impl.OpenOf(c)
	if !ok {
		t.Fatal(c)
	}
	return m
}

func bothAccept(t *testing.T, a, b impl.Conf) bool {
	t.Helper()
	return impl.Accepts(a, openFor(t, b)) && impl.Accepts(b, openFor(t, a))
}

func upOf(c, other impl.Conf) impl.Session {
	hold := slices.Min([]int{c.Hold, other.Hold})
	return impl.Session{State: impl.SsUp, Hold: hold, Keep: hold / 3, Peer: other.As}
}

// Promise 5: two sessions come up together exactly if each accepts the other; both use the lesser of both hold times.
func TestPromise5UpTogether(t *testing.T) {
	all := goodConfs()
	for _, a := range all {
		for _, b := range all {
			var wantA, wantB impl.Session
			up := bothAccept(t, a, b)
			if up {
				wantA, wantB = upOf(a, b), upOf(b, a)
			}
			x, y, ok := impl.Greet(a, b)
			if ok != up || x != wantA || y != wantB {
				t.Fatal(a, b, x, y, ok)
			}
			if !impl.SessionOk(a, x) || !impl.SessionOk(b, y) {
				t.Fatal("a session is not valid", a, b, x, y)
			}
		}
	}
}

func TestGreetExamples(t *testing.T) {
	for _, x := range []struct {
		a, b [4]int
		hold int
	}{
		{[4]int{1, 1, 9, 0}, [4]int{2, 2, 6, 0}, 6}, {[4]int{1, 1, 3, 2}, [4]int{2, 2, 255, 1}, 3}, {[4]int{1, 1, 255, 0}, [4]int{2, 2, 255, 1}, 255},
		{[4]int{1, 2, 5, 2}, [4]int{2, 1, 4, 0}, 4}, {[4]int{1, 1, 9, 0}, [4]int{1, 2, 9, 0}, 0}, {[4]int{1, 1, 9, 0}, [4]int{2, 1, 9, 0}, 0},
		{[4]int{1, 1, 9, 0}, [4]int{1, 1, 9, 0}, 0}, {[4]int{1, 1, 9, 3}, [4]int{2, 2, 9, 0}, 0}, {[4]int{1, 1, 9, 0}, [4]int{2, 2, 9, 3}, 0},
		{[4]int{1, 1, 9, 3}, [4]int{2, 2, 9, 3}, 0}, {[4]int{1, 1, 9, 1}, [4]int{2, 2, 9, 1}, 0}, {[4]int{1, 1, 9, 1}, [4]int{1, 2, 9, 1}, 0},
	} {
		a := impl.Conf{As: x.a[0], Id: x.a[1], Hold: x.a[2], Peer: x.a[3]}
		b := impl.Conf{As: x.b[0], Id: x.b[1], Hold: x.b[2], Peer: x.b[3]}
		s, u, ok := impl.Greet(a, b)
		if ok != (x.hold > 0) || s.Hold != x.hold || u.Hold != x.hold || s.Keep != x.hold/3 || u.Keep != x.hold/3 {
			t.Error(x, s, u, ok)
		}
		if ok && (s.Peer != b.As || u.Peer != a.As || s.State != impl.SsUp || u.State != impl.SsUp) {
			t.Error(x, s, u)
		}
	}
}

func TestGreetInvalid(t *testing.T) {
	good := impl.Conf{As: 1, Id: 1, Hold: 9}
	for _, bad := range badConfs() {
		for _, pair := range [][2]impl.Conf{{bad, good}, {good, bad}, {bad, bad}} {
			if x, y, ok := impl.Greet(pair[0], pair[1]); ok || x != (impl.Session{}) || y != (impl.Session{}) {
				t.Error(pair, x, y, ok)
			}
		}
	}
}

// pair is two sessions and the messages on their way to each, with the number of ticks that each still takes.
type pair struct {
	confs [2]impl.Conf
	s     [2]impl.Session
	to    [2][]impl.Msg
	late  [2][]int
}

func (p *pair) step(t *testing.T, side int, e impl.Event, late int) {
	t.Helper()
	next, l := impl.SessStep(p.confs[side], p.s[side], e)
	if !impl.SessionOk(p.confs[side], next) {
		t.Fatal("the session is not valid", p.confs[side], p.s[side], e, next)
	}
	p.s[side] = next
	for _, m := range l {
		p.to[1-side] = append(p.to[1-side], m)
		p.late[1-side] = append(p.late[1-side], late)
	}
}

// deliver hands over the first message by its encoding.
func (p *pair) deliver(t *testing.T, side, late int) {
	t.Helper()
	b, _ := impl.MsgBytes(p.to[side][0])
	m, e := impl.MsgRead(b)
	if e != impl.ErNone {
		t.Fatal(p.to[side][0], e)
	}
	p.to[side], p.late[side] = p.to[side][1:], p.late[side][1:]
	p.step(t, side, message(m), late)
}

// tick lets one tick pass for both sessions and hands over what has been on its way for long enough.
func (p *pair) tick(t *testing.T, late func() int) {
	t.Helper()
	for side := range 2 {
		p.step(t, side, impl.Event{Kind: impl.EvTick}, late())
	}
	for side := range 2 {
		for i := range p.late[side] {
			p.late[side][i]--
		}
		for len(p.to[side]) > 0 && p.late[side][0] <= 0 {
			p.deliver(t, side, late())
		}
	}
}

// Promise 5 holds in whatever order the messages of both are delivered.
func TestPromise5AnyOrder(t *testing.T) {
	r := rand.New(rand.NewSource(8))
	all := goodConfs()
	for range 20000 {
		p := &pair{confs: [2]impl.Conf{all[r.Intn(len(all))], all[r.Intn(len(all))]}}
		up := bothAccept(t, p.confs[0], p.confs[1])
		first := r.Intn(2)
		for _, kind := range []int{impl.EvStart, impl.EvLink} {
			p.step(t, first, impl.Event{Kind: kind}, 0)
			p.step(t, 1-first, impl.Event{Kind: kind}, 0)
		}
		for n := 0; len(p.to[0])+len(p.to[1]) > 0; n++ {
			side := r.Intn(2)
			if len(p.to[side]) == 0 {
				side = 1 - side
			}
			p.deliver(t, side, 0)
			if n > 10 || !up && (p.s[0].State == impl.SsUp || p.s[1].State == impl.SsUp) {
				t.Fatal(n, p)
			}
		}
		var want [2]impl.Session
		if up {
			want = [2]impl.Session{upOf(p.confs[0], p.confs[1]), upOf(p.confs[1], p.confs[0])}
		}
		if p.s != want {
			t.Fatal(p)
		}
	}
}

// Promise 5: a session that hears nothing is closed after its hold time, and not earlier; it sends MsKeep until then.
func TestPromise5Silence(t *testing.T) {
	for _, c := range append(goodConfs()[:24], fewConfs()...) {
		for _, start := range sessionsOf(c) {
			if start.State < impl.SsSent {
				continue
			}
			s, third := start, start.Hold/3
			for n := 1; n <= start.Hold-start.Heard; n++ {
				next, l := impl.SessStep(c, s, impl.Event{Kind: impl.EvTick})
				want, sent := impl.Session{}, "notify 4"
				if n < start.Hold-start.Heard {
					want, sent = start, ""
					want.Heard += n
				}
				if want.State > impl.SsSent {
					past := n - start.Keep + third
					want.Keep = third - past%third
					if past > 0 && past%third == 0 {
						sent = "keep"
					}
				}
				if next != want || sentOf(l) != sent {
					t.Fatal(c, start, n, next, sentOf(l), want, sent)
				}
				s = next
			}
		}
	}
}

// Promise 5: two that hear each other remain up, even if each message takes as long as the hold time permits.
func TestPromise5HearEachOther(t *testing.T) {
	r := rand.New(rand.NewSource(9))
	holds := []int{3, 4, 5, 6, 7, 8, 9, 10, 30, 254, 255}
	for _, x := range holds {
		for _, y := range holds {
			hold := min(x, y)
			most := hold - 1 - hold/3
			for _, late := range []func() int{func() int { return 0 }, func() int { return most }, func() int { return r.Intn(most + 1) }} {
				p := &pair{confs: [2]impl.Conf{{As: 1, Id: 1, Hold: x, Peer: 2}, {As: 2, Id: 2, Hold: y}}}
				var ok bool
				p.s[0], p.s[1], ok = impl.Greet(p.confs[0], p.confs[1])
				if !ok {
					t.Fatal(p)
				}
				for n := range 3*hold + 100 {
					p.tick(t, late)
					for side := range 2 {
						if s := p.s[side]; s.State != impl.SsUp || s.Hold != hold || s.Peer != 2-side {
							t.Fatal(n, p)
						}
					}
				}
			}
		}
	}
}

// The guarantee of chapter 4: a session that hears from the other end in time remains up, and one that hears a tick too late does not.
func TestPromise5HearInTime(t *testing.T) {
	heard := []impl.Event{message(impl.Msg{Kind: impl.MsKeep}), message(impl.Msg{Kind: impl.MsUpdate}), message(impl.Msg{Kind: impl.MsUpdate, Gone: manyPrefixes(3)})}
	for _, c := range confsOf([]int{5}, []int{7}, []int{3, 4, 5, 6, 9, 100, 255}, []int{0, 1}) {
		for gap := 1; gap <= c.Hold; gap++ {
			s := impl.Session{State: impl.SsUp, Hold: c.Hold, Keep: 1, Peer: 1}
			for round := range 6 {
				for range gap {
					s, _ = impl.SessStep(c, s, impl.Event{Kind: impl.EvTick})
				}
				s, _ = impl.SessStep(c, s, heard[round%3])
				if (s.State == impl.SsUp) != (gap < c.Hold) || s.Heard != 0 {
					t.Fatal(c, gap, round, s)
				}
			}
		}
	}
}

// What lies behind the length of a slice is no part of an event.
func TestEventBehindLength(t *testing.T) {
	prefixes, numbers := manyPrefixes(9), []int{7, 3, 3, 3, 3}
	hidden := impl.Msg{Gone: prefixes[:0], Came: prefixes[:0], Attr: impl.Attr{Path: numbers[:0], Comm: numbers[:0]}}
	c := impl.Conf{As: 5, Id: 7, Hold: 9}
	for _, e := range []impl.Event{{Kind: impl.EvStop, Msg: hidden}, {Kind: impl.EvError, Msg: hidden, Error: 6}} {
		if s, l := impl.SessStep(c, impl.Session{State: impl.SsSent, Hold: 9}, e); !impl.EventOk(e) || s != (impl.Session{}) || sentOf(l) != "notify 6" {
			t.Error(e, s, sentOf(l))
		}
	}
	open := hidden
	open.Kind, open.As, open.Hold, open.Id = impl.MsOpen, 6, 3, 8
	if s, l := impl.SessStep(c, impl.Session{State: impl.SsSent, Hold: 9}, message(open)); !impl.Accepts(c, open) || s != (impl.Session{State: 3, Hold: 3, Keep: 1, Peer: 6}) || sentOf(l) != "keep" {
		t.Error(s, sentOf(l))
	}
}

func TestSessionArgumentsKept(t *testing.T) {
	c := impl.Conf{As: 5, Id: 7, Hold: 9}
	sessions := []impl.Session{{}, {State: 1}, {State: 2, Hold: 9}, {State: 3, Hold: 9, Keep: 3, Peer: 1}, {State: 4, Hold: 9, Keep: 3, Peer: 1}}
	for _, x := range slices.Concat(fewMsgs(), plainMsgs(), badMsgs(), partMsgs()) {
		m, prefixes, numbers := crowdedMsg(x)
		were, had := slices.Clone(prefixes), slices.Clone(numbers)
		impl.Accepts(c, m)
		for kind := impl.EvStart; kind <= impl.EvError; kind++ {
			e := impl.Event{Kind: kind, Msg: m}
			impl.EventOk(e)
			for _, s := range sessions {
				_, l := impl.SessStep(c, s, e)
				for _, sent := range l {
					for part := range 4 {
						spoilPart(sent, part)
					}
				}
			}
		}
		if !slices.Equal(prefixes, were) || !slices.Equal(numbers, had) {
			t.Fatal(x, prefixes, numbers)
		}
	}
}

func TestSessionResultsAreNew(t *testing.T) {
	c := impl.Conf{As: 5, Id: 7, Hold: 9}
	events := goodEvents(c)
	for _, s := range sessionsOf(c) {
		for _, e := range events {
			_, first := impl.SessStep(c, s, e)
			_, second := impl.SessStep(c, s, e)
			want := sentOf(second)
			first = first[:cap(first)]
			for i := range first {
				first[i] = impl.Msg{Kind: impl.MsNotify, Error: impl.ErHead}
			}
			_, third := impl.SessStep(c, s, e)
			if sentOf(second) != want || sentOf(third) != want {
				t.Fatal(s, e, sentOf(second), sentOf(third), want)
			}
		}
	}
}
