package tests

import (
	"math"
	"math/rand"
	"slices"
	"testing"

	"loop.example/g00557/impl"
)

// pulsesOf are the valid pulses with one of these values as Mine, Yours (if it is not 0) and Mult.
func pulsesOf(mines, yours, mults []int) []impl.Pulse {
	var l []impl.Pulse
	for _, mine := range mines {
		for _, mult := range mults {
			l = append(l, impl.Pulse{State: impl.PuAdmin, Mine: mine, Mult: mult}, impl.Pulse{State: impl.PuDown, Mine: mine, Mult: mult})
			for _, other := range yours {
				for heard := range mult {
					l = append(l, impl.Pulse{State: impl.PuInit, Mine: mine, Yours: other, Heard: heard, Mult: mult})
					l = append(l, impl.Pulse{State: impl.PuUp, Mine: mine, Yours: other, Heard: heard, Mult: mult})
				}
			}
		}
	}
	return l
}

func beatsOf(mines, yours []int) []impl.Beat {
	var l []impl.Beat
	for state := impl.PuAdmin; state <= impl.PuUp; state++ {
		for _, mine := range mines {
			for _, other := range yours {
				l = append(l, impl.Beat{State: state, Mine: mine, Yours: other})
			}
		}
	}
	return l
}

func mults() []int {
	return []int{1, 2, 3, 4, 5, 6, 7, 8, 9, 10}
}

func goodPulses() []impl.Pulse {
	return pulsesOf([]int{1, 2, 7, 254, 255}, []int{1, 2, 7, 254, 255}, mults())
}

func fewPulses() []impl.Pulse {
	return pulsesOf([]int{1, 255}, []int{1, 2, 255}, []int{1, 2, 3, 10})
}

func goodBeats() []impl.Beat {
	return beatsOf([]int{1, 2, 7, 254, 255}, []int{0, 1, 2, 7, 9, 254, 255})
}

// badPulses are valid but for one thing.
func badPulses() []impl.Pulse {
	l := []impl.Pulse{
		{}, {Mine: 1}, {Mult: 1}, {State: 1, Mine: 1}, {State: 1, Mult: 1}, {State: 3, Mine: 1, Yours: 2, Heard: 3, Mult: 3}, {State: 2, Mine: 1, Yours: 2, Heard: 3, Mult: 3},
		{State: 2, Mine: 1, Mult: 3}, {State: 3, Mine: 1, Mult: 3}, {State: 2, Mine: 1, Heard: 1, Mult: 3}, {State: 3, Mine: 1, Heard: 1, Mult: 3},
	}
	for state := impl.PuAdmin; state <= impl.PuDown; state++ {
		for _, n := range []int{1, 2, 255, 256, -1, 1 << 32, math.MaxInt, math.MinInt} {
			l = append(l, impl.Pulse{State: state, Mine: 1, Yours: n, Mult: 3}, impl.Pulse{State: state, Mine: 1, Heard: n, Mult: 3}, impl.Pulse{State: state, Mine: 1, Heard: n, Mult: 10})
		}
	}
	for state := impl.PuAdmin; state <= impl.PuUp; state++ {
		yours := 0
		if state > impl.PuDown {
			yours = 2
		}
		for _, n := range []int{0, -1, -2, -255, 256, 257, 1<<32 + 1, math.MaxInt, math.MinInt} {
			l = append(l, impl.Pulse{State: state, Mine: n, Yours: yours, Mult: 3})
		}
		for _, n := range []int{0, -1, -2, 11, 12, 255, 1 << 32, 1<<32 + 1, math.MaxInt, math.MinInt, math.MinInt + 1} {
			l = append(l, impl.Pulse{State: state, Mine: 1, Yours: yours, Mult: n}, impl.Pulse{State: state, Mine: 1, Yours: yours, Heard: n - 1, Mult: n})
		}
	}
	for state := impl.PuInit; state <= impl.PuUp; state++ {
		for _, n := range []int{0, -1, -2, 256, 257, 1<<32 + 1, math.MaxInt, math.MinInt} {
			l = append(l, impl.Pulse{State: state, Mine: 1, Yours: n, Mult: 3})
		}
		for _, n := range []int{-1, -3, 3, 4, 10, 11, 1 << 32, 1<<32 + 1, math.MaxInt, math.MinInt} {
			l = append(l, impl.Pulse{State: state, Mine: 1, Yours: 2, Heard: n, Mult: 3})
		}
		for _, mult := range mults() {
			l = append(l, impl.Pulse{State: state, Mine: 1, Yours: 2, Heard: mult, Mult: mult}, impl.Pulse{State: state, Mine: 1, Yours: 2, Heard: mult + 1, Mult: mult})
		}
	}
	for _, n := range []int{-1, -2, 4, 5, 255, 1 << 32, 1<<32 + 1, 1<<32 + 3, math.MaxInt, math.MinInt} {
		l = append(l, impl.Pulse{State: n, Mine: 1, Mult: 3}, impl.Pulse{State: n, Mine: 1, Yours: 2, Mult: 3}, impl.Pulse{State: n, Mine: 1, Yours: 2, Heard: 2, Mult: 3})
	}
	return l
}

// badBeats are valid but for one thing.
func badBeats() []impl.Beat {
	l := []impl.Beat{{}, {State: 1}, {State: 3, Yours: 1}}
	for _, n := range []int{-1, -2, 4, 5, 255, 1 << 32, 1<<32 + 1, 1<<32 + 3, math.MaxInt, math.MinInt} {
		l = append(l, impl.Beat{State: n, Mine: 2}, impl.Beat{State: n, Mine: 2, Yours: 1})
	}
	for state := impl.PuAdmin; state <= impl.PuUp; state++ {
		for _, n := range []int{-1, -2, 256, 257, 1 << 32, 1<<32 + 1, math.MaxInt, math.MinInt} {
			l = append(l, impl.Beat{State: state, Mine: n}, impl.Beat{State: state, Mine: n, Yours: 1}, impl.Beat{State: state, Mine: 2, Yours: n})
		}
		l = append(l, impl.Beat{State: state}, impl.Beat{State: state, Yours: 1})
	}
	return l
}

func TestPulseOk(t *testing.T) {
	for _, p := range goodPulses() {
		if !impl.PulseOk(p) {
			t.Error(p)
		}
	}
	for _, p := range badPulses() {
		if impl.PulseOk(p) {
			t.Error(p)
		}
	}
	for n := -300; n < 600; n++ {
		inside := n >= 1 && n <= 255
		for _, p := range []impl.Pulse{{State: 0, Mine: n, Mult: 1}, {State: 1, Mine: n, Mult: 10}, {State: 2, Mine: n, Yours: 9, Mult: 1}, {State: 2, Mine: 9, Yours: n, Mult: 3}, {State: 3, Mine: 9, Yours: n, Mult: 3}} {
			if impl.PulseOk(p) != inside {
				t.Error(p)
			}
		}
	}
}

// All pulses with small fields are valid exactly if they are among those that pulsesOf builds.
func TestPulseOkEverySmall(t *testing.T) {
	valid := map[impl.Pulse]bool{}
	for _, p := range pulsesOf([]int{1, 2, 255}, []int{1, 2, 255}, mults()) {
		valid[p] = true
	}
	for state := -1; state <= 4; state++ {
		for _, mine := range []int{-1, 0, 1, 2, 255, 256} {
			for _, yours := range []int{-1, 0, 1, 2, 255, 256} {
				for heard := -1; heard <= 11; heard++ {
					for mult := -1; mult <= 12; mult++ {
						p := impl.Pulse{State: state, Mine: mine, Yours: yours, Heard: heard, Mult: mult}
						if impl.PulseOk(p) != valid[p] {
							t.Fatal(p)
						}
					}
				}
			}
		}
	}
}

func TestBeatOk(t *testing.T) {
	for _, b := range badBeats() {
		if impl.BeatOk(b) {
			t.Error(b)
		}
	}
	for state := -3; state < 8; state++ {
		for mine := -3; mine < 260; mine++ {
			for yours := -3; yours < 260; yours++ {
				b := impl.Beat{State: state, Mine: mine, Yours: yours}
				want := state >= 0 && state < 4 && mine > 0 && mine < 256 && yours >= 0 && yours < 256
				if impl.BeatOk(b) != want {
					t.Fatal(b)
				}
			}
		}
	}
}

func TestPulseNew(t *testing.T) {
	for mine := -3; mine < 300; mine++ {
		for mult := -3; mult < 20; mult++ {
			want, valid := impl.Pulse{}, mine >= 1 && mine <= 255 && mult >= 1 && mult <= 10
			if valid {
				want = impl.Pulse{State: impl.PuDown, Mine: mine, Mult: mult}
			}
			if p, ok := impl.PulseNew(mine, mult); p != want || ok != valid {
				t.Error(mine, mult, p, ok)
			}
		}
	}
	for _, n := range []int{0, -1, 256, 1 << 32, 1<<32 + 1, math.MaxInt, math.MinInt} {
		for _, x := range [][2]int{{n, 3}, {3, n}, {n, n}} {
			if p, ok := impl.PulseNew(x[0], x[1]); ok || p != (impl.Pulse{}) {
				t.Error(x, p, ok)
			}
		}
	}
}

func TestBeatOf(t *testing.T) {
	for _, p := range goodPulses() {
		if b, ok := impl.BeatOf(p); !ok || b != (impl.Beat{State: p.State, Mine: p.Mine, Yours: p.Yours}) || !impl.BeatOk(b) {
			t.Error(p, b, ok)
		}
	}
	for _, p := range badPulses() {
		if b, ok := impl.BeatOf(p); ok || b != (impl.Beat{}) {
			t.Error(p, b, ok)
		}
	}
}

func fallen(p impl.Pulse) impl.Pulse {
	return impl.Pulse{State: impl.PuDown, Mine: p.Mine, Mult: p.Mult}
}

// heardOf is the reference for Hear with valid arguments. A row belongs to the state of the pulse, its letters to those of the beat.
func heardOf(p impl.Pulse, b impl.Beat) impl.Pulse {
	rows := []string{"====", "diu=", "diuu", "dduu"}
	letter := rows[p.State][b.State]
	switch {
	case letter == '=' || b.Yours > 0 && b.Yours != p.Mine || b.Yours == 0 && (b.State == impl.PuInit || b.State == impl.PuUp):
		return p
	case letter == 'd':
		return fallen(p)
	case letter == 'i':
		return impl.Pulse{State: impl.PuInit, Mine: p.Mine, Yours: b.Mine, Mult: p.Mult}
	}
	return impl.Pulse{State: impl.PuUp, Mine: p.Mine, Yours: b.Mine, Mult: p.Mult}
}

func tickedOf(p impl.Pulse) (impl.Pulse, bool) {
	switch {
	case p.State == impl.PuAdmin || p.State == impl.PuDown:
		return p, false
	case p.Heard == p.Mult-1:
		return fallen(p), p.State == impl.PuUp
	}
	return impl.Pulse{State: p.State, Mine: p.Mine, Yours: p.Yours, Heard: p.Heard + 1, Mult: p.Mult}, false
}

// Every state of the pulse with every state of the beat, and with Yours of the beat 0, Mine of the pulse, and neither.
func TestHear(t *testing.T) {
	beats := goodBeats()
	for _, p := range goodPulses() {
		for _, b := range beats {
			if got := impl.Hear(p, b); got != heardOf(p, b) {
				t.Fatal(p, b, got)
			}
		}
	}
}

func TestHearEveryNumber(t *testing.T) {
	for mine := 1; mine <= 255; mine++ {
		for yours := 0; yours <= 255; yours++ {
			for own := impl.PuAdmin; own <= impl.PuUp; own++ {
				p := impl.Pulse{State: own, Mine: 77, Mult: 4}
				if own > impl.PuDown {
					p.Yours, p.Heard = 88, 3
				}
				for state := impl.PuAdmin; state <= impl.PuUp; state++ {
					b := impl.Beat{State: state, Mine: mine, Yours: yours}
					if got := impl.Hear(p, b); got != heardOf(p, b) {
						t.Fatal(p, b, got)
					}
				}
			}
		}
	}
}

func TestHearExamples(t *testing.T) {
	for _, x := range []struct {
		p    [5]int
		b    [3]int
		want [5]int
	}{
		{[5]int{1, 1, 0, 0, 3}, [3]int{1, 2, 0}, [5]int{2, 1, 2, 0, 3}}, {[5]int{1, 1, 0, 0, 3}, [3]int{1, 2, 1}, [5]int{2, 1, 2, 0, 3}}, {[5]int{1, 1, 0, 0, 3}, [3]int{2, 2, 1}, [5]int{3, 1, 2, 0, 3}},
		{[5]int{1, 1, 0, 0, 3}, [3]int{3, 2, 1}, [5]int{1, 1, 0, 0, 3}}, {[5]int{1, 1, 0, 0, 3}, [3]int{0, 2, 0}, [5]int{1, 1, 0, 0, 3}}, {[5]int{1, 1, 0, 0, 3}, [3]int{2, 2, 0}, [5]int{1, 1, 0, 0, 3}},
		{[5]int{1, 1, 0, 0, 3}, [3]int{1, 2, 9}, [5]int{1, 1, 0, 0, 3}}, {[5]int{1, 1, 0, 0, 3}, [3]int{2, 1, 1}, [5]int{3, 1, 1, 0, 3}},
		{[5]int{2, 1, 2, 2, 3}, [3]int{1, 4, 0}, [5]int{2, 1, 4, 0, 3}}, {[5]int{2, 1, 2, 2, 3}, [3]int{2, 2, 1}, [5]int{3, 1, 2, 0, 3}}, {[5]int{2, 1, 2, 2, 3}, [3]int{3, 4, 1}, [5]int{3, 1, 4, 0, 3}},
		{[5]int{2, 1, 2, 2, 3}, [3]int{3, 2, 0}, [5]int{2, 1, 2, 2, 3}}, {[5]int{2, 1, 2, 2, 3}, [3]int{0, 2, 1}, [5]int{1, 1, 0, 0, 3}}, {[5]int{2, 1, 2, 2, 3}, [3]int{0, 2, 9}, [5]int{2, 1, 2, 2, 3}},
		{[5]int{3, 1, 2, 2, 3}, [3]int{1, 2, 0}, [5]int{1, 1, 0, 0, 3}}, {[5]int{3, 1, 2, 2, 3}, [3]int{1, 2, 1}, [5]int{1, 1, 0, 0, 3}}, {[5]int{3, 1, 2, 2, 3}, [3]int{1, 2, 2}, [5]int{3, 1, 2, 2, 3}},
		{[5]int{3, 1, 2, 2, 3}, [3]int{2, 2, 1}, [5]int{3, 1, 2, 0, 3}}, {[5]int{3, 1, 2, 2, 3}, [3]int{3, 5, 1}, [5]int{3, 1, 5, 0, 3}}, {[5]int{3, 1, 2, 2, 3}, [3]int{3, 2, 0}, [5]int{3, 1, 2, 2, 3}},
		{[5]int{3, 1, 2, 2, 3}, [3]int{0, 9, 0}, [5]int{1, 1, 0, 0, 3}}, {[5]int{0, 1, 0, 0, 3}, [3]int{1, 2, 0}, [5]int{0, 1, 0, 0, 3}}, {[5]int{0, 1, 0, 0, 3}, [3]int{0, 2, 1}, [5]int{0, 1, 0, 0, 3}},
	} {
		p := impl.Pulse{State: x.p[0], Mine: x.p[1], Yours: x.p[2], Heard: x.p[3], Mult: x.p[4]}
		want := impl.Pulse{State: x.want[0], Mine: x.want[1], Yours: x.want[2], Heard: x.want[3], Mult: x.want[4]}
		if got := impl.Hear(p, impl.Beat{State: x.b[0], Mine: x.b[1], Yours: x.b[2]}); got != want {
			t.Error(x, got)
		}
	}
}

func TestHearInvalid(t *testing.T) {
	for _, p := range badPulses() {
		for _, b := range append(goodBeats(), badBeats()...) {
			if got := impl.Hear(p, b); got != (impl.Pulse{}) {
				t.Fatal(p, b, got)
			}
		}
	}
	for _, p := range fewPulses() {
		for _, b := range badBeats() {
			if got := impl.Hear(p, b); got != (impl.Pulse{}) {
				t.Fatal(p, b, got)
			}
		}
	}
}

func TestPulseTick(t *testing.T) {
	for _, p := range goodPulses() {
		want, wantFell := tickedOf(p)
		if got, fell := impl.PulseTick(p); got != want || fell != wantFell {
			t.Error(p, got, fell)
		}
	}
	for _, p := range badPulses() {
		if got, fell := impl.PulseTick(p); fell || got != (impl.Pulse{}) {
			t.Error(p, got, fell)
		}
	}
}

func TestPulseTickExamples(t *testing.T) {
	for _, x := range []struct {
		p, want impl.Pulse
		fell    bool
	}{
		{impl.Pulse{State: 3, Mine: 1, Yours: 2, Mult: 3}, impl.Pulse{State: 3, Mine: 1, Yours: 2, Heard: 1, Mult: 3}, false},
		{impl.Pulse{State: 3, Mine: 1, Yours: 2, Heard: 1, Mult: 3}, impl.Pulse{State: 3, Mine: 1, Yours: 2, Heard: 2, Mult: 3}, false},
		{impl.Pulse{State: 3, Mine: 1, Yours: 2, Heard: 2, Mult: 3}, impl.Pulse{State: 1, Mine: 1, Mult: 3}, true},
		{impl.Pulse{State: 2, Mine: 1, Yours: 2, Heard: 2, Mult: 3}, impl.Pulse{State: 1, Mine: 1, Mult: 3}, false},
		{impl.Pulse{State: 2, Mine: 1, Yours: 2, Heard: 1, Mult: 3}, impl.Pulse{State: 2, Mine: 1, Yours: 2, Heard: 2, Mult: 3}, false},
		{impl.Pulse{State: 3, Mine: 1, Yours: 2, Mult: 1}, impl.Pulse{State: 1, Mine: 1, Mult: 1}, true},
		{impl.Pulse{State: 2, Mine: 1, Yours: 2, Mult: 1}, impl.Pulse{State: 1, Mine: 1, Mult: 1}, false},
		{impl.Pulse{State: 3, Mine: 1, Yours: 2, Heard: 9, Mult: 10}, impl.Pulse{State: 1, Mine: 1, Mult: 10}, true},
		{impl.Pulse{State: 1, Mine: 1, Mult: 1}, impl.Pulse{State: 1, Mine: 1, Mult: 1}, false},
		{impl.Pulse{State: 0, Mine: 1, Mult: 1}, impl.Pulse{State: 0, Mine: 1, Mult: 1}, false},
	} {
		if got, fell := impl.PulseTick(x.p); got != x.want || fell != x.fell {
			t.Error(x.p, got, fell)
		}
	}
}

func TestAdmin(t *testing.T) {
	for _, p := range goodPulses() {
		if got := impl.Admin(p, true); got != (impl.Pulse{State: impl.PuAdmin, Mine: p.Mine, Mult: p.Mult}) {
			t.Error(p, got)
		}
		want := p
		if p.State == impl.PuAdmin {
			want = fallen(p)
		}
		if got := impl.Admin(p, false); got != want {
			t.Error(p, got)
		}
	}
	for _, p := range badPulses() {
		for _, down := range []bool{false, true} {
			if got := impl.Admin(p, down); got != (impl.Pulse{}) {
				t.Error(p, down, got)
			}
		}
	}
}

// beaten is the reference for Beats with valid arguments.
func beaten(p, q impl.Pulse, lost []bool) (impl.Pulse, impl.Pulse) {
	for _, l := range lost {
		ofP, ofQ := impl.Beat{State: p.State, Mine: p.Mine, Yours: p.Yours}, impl.Beat{State: q.State, Mine: q.Mine, Yours: q.Yours}
		p, _ = tickedOf(p)
		q, _ = tickedOf(q)
		if !l {
			p, q = heardOf(p, ofQ), heardOf(q, ofP)
		}
	}
	return p, q
}

// losses are all lists of this length.
func losses(length int) [][]bool {
	var l [][]bool
	for bits := range 1 << length {
		lost := make([]bool, length)
		for i := range lost {
			lost[i] = bits>>i&1 == 1
		}
		l = append(l, lost)
	}
	return l
}

func checkBeats(t *testing.T, p, q impl.Pulse, lost []bool) {
	t.Helper()
	x, y := beaten(p, q, lost)
	if u, v, ok := impl.Beats(p, q, lost); u != x || v != y || !ok {
		t.Fatal(p, q, lost, u, v, ok)
	}
}

func TestBeats(t *testing.T) {
	few := pulsesOf([]int{1, 255}, []int{1, 2, 255}, []int{1, 2, 3})
	for length := range 5 {
		for _, lost := range losses(length) {
			for _, p := range few {
				for _, q := range few {
					checkBeats(t, p, q, lost)
				}
			}
		}
	}
}

func TestBeatsLong(t *testing.T) {
	r := rand.New(rand.NewSource(10))
	all := goodPulses()
	for range 20000 {
		p, q := all[r.Intn(len(all))], all[r.Intn(len(all))]
		if r.Intn(2) == 0 {
			p.Mine, q.Mine = 1, 2
			p.Yours, q.Yours = min(p.Yours, 2), min(q.Yours, 1)
		}
		lost := make([]bool, r.Intn(101))
		often := r.Intn(10)
		for i := range lost {
			lost[i] = r.Intn(10) < often
		}
		checkBeats(t, p, q, lost)
	}
}

// Lists of no element, of 100 and of 101 elements, all of them lost or delivered.
func TestBeatsLimits(t *testing.T) {
	few := pulsesOf([]int{1, 2}, []int{1, 2}, []int{1, 2, 10})
	for _, all := range []bool{false, true} {
		lost := slices.Repeat([]bool{all}, 102)
		for _, p := range few {
			for _, q := range few {
				if x, y, ok := impl.Beats(p, q, nil); x != p || y != q || !ok {
					t.Fatal(p, q, x, y, ok)
				}
				for _, length := range []int{0, 1, 9, 10, 11, 99, 100} {
					checkBeats(t, p, q, lost[:length])
				}
				for _, length := range []int{101, 102} {
					if x, y, ok := impl.Beats(p, q, lost[:length]); ok || x != (impl.Pulse{}) || y != (impl.Pulse{}) {
						t.Fatal(p, q, length, x, y, ok)
					}
				}
			}
		}
	}
	if x, y, ok := impl.Beats(few[0], few[0], make([]bool, 5000)); ok || x != (impl.Pulse{}) || y != (impl.Pulse{}) {
		t.Error(x, y, ok)
	}
}

func TestBeatsInvalid(t *testing.T) {
	for _, good := range fewPulses() {
		for _, bad := range badPulses() {
			for _, pair := range [][2]impl.Pulse{{bad, good}, {good, bad}, {bad, bad}} {
				for _, lost := range [][]bool{nil, {}, {true}, {false}, make([]bool, 100), make([]bool, 101)} {
					if x, y, ok := impl.Beats(pair[0], pair[1], lost); ok || x != (impl.Pulse{}) || y != (impl.Pulse{}) {
						t.Fatal(pair, lost, x, y, ok)
					}
				}
			}
		}
	}
}

// What one end sends before it goes down by a tick still arrives.
func TestBeatsAreSentBeforeTicks(t *testing.T) {
	p := impl.Pulse{State: impl.PuUp, Mine: 1, Yours: 2, Heard: 2, Mult: 3}
	q := impl.Pulse{State: impl.PuUp, Mine: 2, Yours: 1, Heard: 8, Mult: 10}
	x, y, ok := impl.Beats(p, q, []bool{false})
	if !ok || x != (impl.Pulse{State: impl.PuDown, Mine: 1, Mult: 3}) || y != (impl.Pulse{State: impl.PuUp, Mine: 2, Yours: 1, Mult: 10}) {
		t.Error(x, y, ok)
	}
	q.Heard = 9
	x, y, ok = impl.Beats(p, q, []bool{false})
	if !ok || x.State != impl.PuDown || y != (impl.Pulse{State: impl.PuDown, Mine: 2, Mult: 10}) {
		t.Error(x, y, ok)
	}
}

// An end with Mult 1 goes down at each tick, also if it hears the other one.
func TestBeatsMultOne(t *testing.T) {
	p, _ := impl.PulseNew(1, 1)
	q, _ := impl.PulseNew(2, 1)
	for n, state := range []int{impl.PuDown, impl.PuInit, impl.PuUp, impl.PuDown, impl.PuInit, impl.PuUp, impl.PuDown} {
		if x, y, ok := impl.Beats(p, q, make([]bool, n)); !ok || x.State != state || y.State != state {
			t.Error(n, x, y, ok)
		}
	}
}

// Beats neither writes to the list, or behind it, nor reads what lies behind it.
func TestBeatsKeepsLost(t *testing.T) {
	p, _ := impl.PulseNew(1, 3)
	q, _ := impl.PulseNew(2, 2)
	for length := range 7 {
		for _, lost := range losses(length) {
			for _, behind := range losses(3) {
				crowd := slices.Concat(behind, lost, behind)
				before := slices.Clone(crowd)
				checkBeats(t, p, q, crowd[3:3+length])
				if !slices.Equal(crowd, before) {
					t.Fatal(before, crowd)
				}
			}
		}
	}
}

// Two calls with the parts of a list give the same as one call with the list.
func TestBeatsInParts(t *testing.T) {
	for _, lost := range losses(6) {
		for cut := range 7 {
			for _, p := range pulsesOf([]int{1}, []int{2}, []int{1, 2, 3}) {
				for _, q := range pulsesOf([]int{2}, []int{1, 3}, []int{2, 4}) {
					x, y, _ := impl.Beats(p, q, lost)
					u, v, _ := impl.Beats(p, q, lost[:cut])
					u, v, ok := impl.Beats(u, v, lost[cut:])
					if !ok || u != x || v != y {
						t.Fatal(p, q, lost, cut)
					}
				}
			}
		}
	}
}

// Promise 6: a pulse remains valid after beats, ticks and Admin.
func TestPromise6RemainsValid(t *testing.T) {
	beats := goodBeats()
	check := func(p impl.Pulse, why string, l ...impl.Pulse) {
		t.Helper()
		for _, next := range l {
			if !impl.PulseOk(next) || next.Mine != p.Mine || next.Mult != p.Mult {
				t.Fatal(why, p, next)
			}
		}
	}
	for _, p := range goodPulses() {
		ticked, _ := impl.PulseTick(p)
		check(p, "after a tick", ticked)
		check(p, "after Admin", impl.Admin(p, true), impl.Admin(p, false))
		for _, b := range beats {
			check(p, "after a beat", impl.Hear(p, b))
		}
	}
	for _, p := range fewPulses() {
		for _, q := range fewPulses() {
			for _, lost := range losses(3) {
				x, y, _ := impl.Beats(p, q, lost)
				check(p, "first after Beats", x)
				check(q, "second after Beats", y)
			}
		}
	}
}

// Promise 6: a pulse remains valid after any sequence of these.
func TestPromise6RemainsValidForLong(t *testing.T) {
	r := rand.New(rand.NewSource(11))
	for _, mult := range mults() {
		p, ok := impl.PulseNew(7, mult)
		seen := map[int]int{}
		for range 20000 {
			before := p
			switch r.Intn(20) {
			case 0:
				p = impl.Admin(p, true)
			case 1, 2:
				p = impl.Admin(p, false)
			case 3, 4, 5, 6, 7, 8:
				p, _ = impl.PulseTick(p)
			default:
				p = impl.Hear(p, impl.Beat{State: r.Intn(4), Mine: 1 + r.Intn(255), Yours: []int{0, 7, 7, 8}[r.Intn(4)]})
			}
			if !ok || !impl.PulseOk(p) || p.Mine != 7 || p.Mult != mult {
				t.Fatal(before, p)
			}
			seen[p.State]++
		}
		if len(seen) != 4 {
			t.Error("the states that were reached", mult, seen)
		}
	}
}

// partners are the pairs that can come up: none is administratively down, Mult is above 1, and Yours is 0 or Mine of the other end.
func partners(visit func(p, q impl.Pulse)) {
	for _, mines := range [][2]int{{1, 2}, {2, 1}, {255, 254}, {9, 9}} {
		for _, p := range pulsesOf(mines[:1], mines[1:], mults()[1:]) {
			for _, q := range pulsesOf(mines[1:], mines[:1], mults()[1:]) {
				if p.State != impl.PuAdmin && q.State != impl.PuAdmin {
					visit(p, q)
				}
			}
		}
	}
}

func upWith(p, q impl.Pulse) impl.Pulse {
	return impl.Pulse{State: impl.PuUp, Mine: p.Mine, Yours: q.Mine, Mult: p.Mult}
}

// Promise 6: two whose beats are delivered are up after four exchanges, and then remain up.
func TestPromise6UpAfterFour(t *testing.T) {
	partners(func(p, q impl.Pulse) {
		for _, n := range []int{4, 5, 6, 7, 100} {
			if x, y, ok := impl.Beats(p, q, make([]bool, n)); !ok || x != upWith(p, q) || y != upWith(q, p) {
				t.Fatal(p, q, n, x, y, ok)
			}
		}
	})
}

// Chapter 5: two ends that are down are up after two exchanges, and not earlier; three exchanges suffice.
func TestPromise6UpAfterTwo(t *testing.T) {
	for _, first := range mults()[1:] {
		for _, second := range mults()[1:] {
			for _, mines := range [][2]int{{1, 2}, {255, 1}, {7, 7}} {
				p, _ := impl.PulseNew(mines[0], first)
				q, _ := impl.PulseNew(mines[1], second)
				x, y, ok := impl.Beats(p, q, make([]bool, 1))
				if !ok || x != (impl.Pulse{State: impl.PuInit, Mine: p.Mine, Yours: q.Mine, Mult: first}) || y != (impl.Pulse{State: impl.PuInit, Mine: q.Mine, Yours: p.Mine, Mult: second}) {
					t.Fatal(p, q, x, y, ok)
				}
				for _, n := range []int{2, 3} {
					if x, y, ok := impl.Beats(p, q, make([]bool, n)); !ok || x != upWith(p, q) || y != upWith(q, p) {
						t.Fatal(p, q, n, x, y, ok)
					}
				}
			}
		}
	}
}

// Three exchanges suffice if the first tick takes none of both down.
func TestPromise6UpAfterThree(t *testing.T) {
	partners(func(p, q impl.Pulse) {
		if p.Heard == p.Mult-1 || q.Heard == q.Mult-1 {
			return
		}
		if x, y, ok := impl.Beats(p, q, make([]bool, 3)); !ok || x != upWith(p, q) || y != upWith(q, p) {
			t.Fatal(p, q, x, y, ok)
		}
	})
}

// Promise 6: after ten lost beats they are down, and in fact as soon as Mult ticks have passed since the last beat.
func TestPromise6DownAfterTenLost(t *testing.T) {
	all := pulsesOf([]int{1}, []int{1, 2}, mults())
	for _, p := range all {
		for _, q := range all {
			for _, n := range []int{10, 11, 100} {
				x, y, ok := impl.Beats(p, q, slices.Repeat([]bool{true}, n))
				if !ok || x.State > impl.PuDown || y.State > impl.PuDown || (x.State == impl.PuAdmin) != (p.State == impl.PuAdmin) || (y.State == impl.PuAdmin) != (q.State == impl.PuAdmin) {
					t.Fatal(p, q, n, x, y, ok)
				}
			}
		}
		if p.State < impl.PuInit {
			continue
		}
		left := p.Mult - p.Heard
		x, _, _ := impl.Beats(p, p, slices.Repeat([]bool{true}, left-1))
		y, _, _ := impl.Beats(p, p, slices.Repeat([]bool{true}, left))
		if x.State != p.State || x.Heard != p.Mult-1 || y != fallen(p) {
			t.Fatal(p, x, y)
		}
	}
}

// Promise 6 for ends that start anew and lose beats in one or both directions before and in between.
func TestPromise6AfterAnyLoss(t *testing.T) {
	r := rand.New(rand.NewSource(12))
	for range 5000 {
		p, _ := impl.PulseNew(1+r.Intn(255), 2+r.Intn(9))
		q, _ := impl.PulseNew(1+r.Intn(255), 2+r.Intn(9))
		wantP, wantQ := upWith(p, q), upWith(q, p)
		for range r.Intn(60) {
			toQ, _ := impl.BeatOf(p)
			toP, _ := impl.BeatOf(q)
			if r.Intn(3) > 0 {
				p, _ = impl.PulseTick(p)
			}
			if r.Intn(3) > 0 {
				q, _ = impl.PulseTick(q)
			}
			if r.Intn(3) > 0 {
				p = impl.Hear(p, toP)
			}
			if r.Intn(3) > 0 {
				q = impl.Hear(q, toQ)
			}
		}
		x, y, ok := impl.Beats(p, q, make([]bool, 4))
		if !ok || x != wantP || y != wantQ {
			t.Fatal(p, q, x, y, ok)
		}
		x, y, ok = impl.Beats(x, y, slices.Repeat([]bool{true}, 10))
		if !ok || x != fallen(p) || y != fallen(q) {
			t.Fatal(x, y, ok)
		}
	}
}

// An end that is administratively down takes the other one down at once, and never comes up.
func TestBeatsAdmin(t *testing.T) {
	for _, p := range pulsesOf([]int{1}, []int{2}, mults()) {
		for _, mult := range mults() {
			shut := impl.Pulse{State: impl.PuAdmin, Mine: 2, Mult: mult}
			for n := 1; n <= 5; n++ {
				want := fallen(p)
				if p.State == impl.PuAdmin {
					want = p
				}
				if x, y, ok := impl.Beats(p, shut, make([]bool, n)); !ok || x != want || y != shut {
					t.Fatal(p, shut, n, x, y, ok)
				}
			}
		}
	}
}

func TestPulseConstants(t *testing.T) {
	const admin, down, starting, up int8 = impl.PuAdmin, impl.PuDown, impl.PuInit, impl.PuUp
	if admin != 0 || down != 1 || starting != 2 || up != 3 {
		t.Error(admin, down, starting, up)
	}
}
