package tests

import (
	"fmt"
	"math"
	"math/rand"
	"slices"
	"strings"
	"testing"

	"loop.example/g00557/impl"
)

var goodPaths = [][]int{
	nil, {1}, {2}, {1000}, {65535}, {1, 1}, {1, 2}, {2, 1}, {65535, 1}, {1, 2, 3}, {5, 6, 7}, {1, 2, 3, 4, 5, 6, 7},
	{1, 2, 3, 4, 5, 6, 7, 8}, {1, 2, 3, 4, 5, 6, 7, 9}, {65535, 65535, 65535, 65535, 65535, 65535, 65535, 65535},
}

var goodComms = [][]int{
	nil, {1}, {2}, {65535}, {1, 2}, {1, 3}, {2, 3}, {999}, {1000}, {1001}, {999, 1001}, {1, 1000}, {1000, 65535}, {1, 2, 3},
	{2, 999, 1000}, {1, 2, 3, 4}, {1, 2, 3, 1000}, {1000, 1001, 1002, 1003}, {65532, 65533, 65534, 65535},
}

func goodAttrs() []impl.Attr {
	var l []impl.Attr
	for _, path := range goodPaths {
		for _, comm := range goodComms {
			for _, pref := range []int{0, 1, 100, 999, 1000} {
				for _, bw := range []int{0, 1, 1000} {
					l = append(l, impl.Attr{Path: slices.Clone(path), Pref: pref, Comm: slices.Clone(comm), Bw: bw})
				}
			}
		}
	}
	return l
}

// fewAttrs is a part of goodAttrs for tests that take all pairs.
func fewAttrs() []impl.Attr {
	l := goodAttrs()
	r := rand.New(rand.NewSource(2))
	r.Shuffle(len(l), func(i, j int) { l[i], l[j] = l[j], l[i] })
	return l[:400]
}

func badNumbers() []int {
	return []int{0, -1, -65535, 65536, 65537, 1 << 17, 1<<32 + 1, math.MaxInt, math.MinInt}
}

// badAttrs are valid but for one thing.
func badAttrs() []impl.Attr {
	var l []impl.Attr
	for _, n := range badNumbers() {
		for _, at := range []int{0, 1, 7} {
			path := []int{1, 2, 3, 4, 5, 6, 7, 8}
			path[at] = n
			l = append(l, impl.Attr{Path: path, Pref: 100, Comm: []int{1, 1000}}, impl.Attr{Path: path[:at+1], Pref: 100})
		}
		l = append(l, impl.Attr{Path: []int{1}, Comm: []int{n}}, impl.Attr{Comm: slices.Sorted(slices.Values([]int{1, 2, 1000, n}))})
	}
	for _, n := range []int{-1, -1000, 1001, 65535, 1<<32 + 1, math.MaxInt, math.MinInt} {
		l = append(l, impl.Attr{Path: []int{1}, Pref: n, Comm: []int{1000}}, impl.Attr{Path: []int{1}, Bw: n, Comm: []int{1000}})
	}
	for _, comm := range [][]int{
		{1, 1}, {1000, 1000}, {2, 1}, {1000, 1}, {1, 2, 2}, {1, 3, 2}, {1, 2, 3, 3}, {1, 2, 4, 3}, {2, 1, 3, 4}, {1, 2, 3, 4, 5},
		{996, 997, 998, 999, 1000}, {1, 2, 3, 4, 5, 6, 7, 8}, make([]int, 100),
	} {
		l = append(l, impl.Attr{Path: []int{1}, Pref: 100, Comm: comm})
	}
	for _, path := range [][]int{{1, 2, 3, 4, 5, 6, 7, 8, 9}, {1, 1, 1, 1, 1, 1, 1, 1, 1}, slices.Repeat([]int{1}, 1000)} {
		l = append(l, impl.Attr{Path: path, Pref: 100})
	}
	return l
}

func sameAttr(a, b impl.Attr) bool {
	return slices.Equal(a.Path, b.Path) && a.Pref == b.Pref && slices.Equal(a.Comm, b.Comm) && a.Bw == b.Bw
}

func isZeroAttr(a impl.Attr) bool {
	return len(a.Path) == 0 && a.Pref == 0 && len(a.Comm) == 0 && a.Bw == 0
}

// keyOf is the reference for the order: texts that are in the order of the values. The blank ends a list, for it is before any digit.
func keyOf(a impl.Attr) string {
	digits := func(l []int) string {
		s := ""
		for _, n := range l {
			s += fmt.Sprintf("%05d", n)
		}
		return s + " "
	}
	return rankOf(a) + digits(a.Path) + digits(a.Comm) + fmt.Sprintf("%04d", a.Bw)
}

func rankOf(a impl.Attr) string {
	return fmt.Sprintf("%04d %d ", 1000-a.Pref, len(a.Path))
}

func keysOf(l []impl.Attr, key func(impl.Attr) string) []string {
	var keys []string
	for _, a := range l {
		keys = append(keys, key(a))
	}
	return keys
}

func TestAttrOk(t *testing.T) {
	for _, a := range goodAttrs() {
		if !impl.AttrOk(a) {
			t.Error(a)
		}
	}
	for _, a := range badAttrs() {
		if impl.AttrOk(a) {
			t.Error(a)
		}
	}
}

func TestAttrOkEveryNumber(t *testing.T) {
	for n := -3; n < 65540; n++ {
		number, amount := n >= 1 && n <= 65535, n >= 0 && n <= 1000
		for _, a := range []impl.Attr{{Path: []int{n}}, {Path: []int{1, n, 1}}, {Comm: []int{n}}} {
			if impl.AttrOk(a) != number {
				t.Fatal(a)
			}
		}
		if impl.AttrOk(impl.Attr{Pref: n}) != amount || impl.AttrOk(impl.Attr{Bw: n}) != amount {
			t.Fatal("amount", n)
		}
		if impl.AttrOk(impl.Attr{Comm: []int{n, 1000}}) != (n >= 1 && n < 1000) {
			t.Fatal("ascending", n)
		}
	}
}

// What lies behind the length of a slice neither spoils attributes nor belongs to them.
func TestAttrBehindLength(t *testing.T) {
	path, comm := []int{5, 6, 0, -1, 7, 7, 7, 7, 7, 7}, []int{3, 2, 999, 1000, 1000, 0}
	a := impl.Attr{Path: path[:2], Pref: 100, Comm: comm[:1]}
	if !impl.AttrOk(a) || impl.PathHas(a, 7) || !impl.PathHas(a, 6) || string(impl.AttrText(a)) != "pref 100 bw 0 path 5 6 marks 3" {
		t.Error("read behind the length")
	}
	if b := impl.Shut(a); b.Pref != 100 || len(b.Path) != 2 || len(b.Comm) != 1 {
		t.Error(b)
	}
	if b, ok := impl.WithComm(a, 999); !ok || !slices.Equal(b.Comm, []int{3, 999}) {
		t.Error(b, ok)
	}
	if b, ok := impl.Prepend(a, 4); !ok || !slices.Equal(b.Path, []int{4, 5, 6}) {
		t.Error(b, ok)
	}
	if impl.AttrCmp(a, impl.Attr{Path: []int{5, 6}, Pref: 100, Comm: []int{3}}) != 0 {
		t.Error("AttrCmp reads behind the length")
	}
}

func TestPathHas(t *testing.T) {
	for _, a := range goodAttrs() {
		for _, n := range append(badNumbers(), 1, 2, 3, 5, 7, 8, 9, 100, 999, 1000, 1001, 65534, 65535) {
			if impl.PathHas(a, n) != slices.Contains(a.Path, n) {
				t.Fatal(a, n)
			}
		}
	}
	for _, a := range badAttrs() {
		for _, n := range append([]int{0, 1, 1000}, a.Path...) {
			if impl.PathHas(a, n) {
				t.Error(a, n)
			}
		}
	}
}

func TestPrepend(t *testing.T) {
	for _, a := range goodAttrs() {
		for _, n := range []int{1, 2, 9, 1000, 65534, 65535} {
			b, ok := impl.Prepend(a, n)
			want := a
			if len(a.Path) < 8 {
				want.Path = append([]int{n}, a.Path...)
			}
			if ok != (len(a.Path) < 8) || !sameAttr(b, want) || !impl.AttrOk(b) {
				t.Fatal(a, n, b, ok)
			}
		}
		for _, n := range badNumbers() {
			if b, ok := impl.Prepend(a, n); ok || !isZeroAttr(b) {
				t.Fatal(a, n, b, ok)
			}
		}
	}
}

func TestWithComm(t *testing.T) {
	for _, a := range goodAttrs() {
		for _, n := range []int{1, 2, 3, 4, 5, 998, 999, 1000, 1001, 1003, 65532, 65534, 65535} {
			want, ok := a, true
			if !slices.Contains(a.Comm, n) {
				want.Comm = slices.Sorted(slices.Values(append([]int{n}, a.Comm...)))
			}
			if len(want.Comm) > 4 {
				want, ok = a, false
			}
			if b, fine := impl.WithComm(a, n); fine != ok || !sameAttr(b, want) || !impl.AttrOk(b) {
				t.Fatal(a, n, b, fine)
			}
		}
		for _, n := range badNumbers() {
			if b, ok := impl.WithComm(a, n); ok || !isZeroAttr(b) {
				t.Fatal(a, n, b, ok)
			}
		}
	}
}

func TestShut(t *testing.T) {
	for _, a := range goodAttrs() {
		want := a
		if slices.Contains(a.Comm, impl.CmShut) {
			want.Pref = 0
		}
		if b := impl.Shut(a); !sameAttr(b, want) {
			t.Fatal(a, b)
		}
	}
}

func TestAttrsInvalid(t *testing.T) {
	good := append(fewAttrs()[:20], impl.Attr{}, impl.Attr{Path: []int{1}, Pref: 100})
	for _, a := range badAttrs() {
		for _, n := range []int{1, 1000, 65535, 0, 65536} {
			if b, ok := impl.Prepend(a, n); ok || !isZeroAttr(b) {
				t.Error("Prepend", a, n, b, ok)
			}
			if b, ok := impl.WithComm(a, n); ok || !isZeroAttr(b) {
				t.Error("WithComm", a, n, b, ok)
			}
		}
		if b := impl.Shut(a); !isZeroAttr(b) {
			t.Error("Shut", a, b)
		}
		if len(impl.AttrText(a)) != 0 {
			t.Error("AttrText", a)
		}
		for _, b := range append(good, a, badAttrs()[0]) {
			if impl.Better(a, b) || impl.Better(b, a) || impl.Equal(a, b) || impl.Equal(b, a) {
				t.Error("rank", a, b)
			}
			if impl.AttrCmp(a, b) != 0 || impl.AttrCmp(b, a) != 0 {
				t.Error("AttrCmp", a, b)
			}
		}
	}
}

func TestRank(t *testing.T) {
	l := fewAttrs()
	ranks := keysOf(l, rankOf)
	for i, a := range l {
		for j, b := range l {
			if impl.Better(a, b) != (ranks[i] < ranks[j]) || impl.Equal(a, b) != (ranks[i] == ranks[j]) {
				t.Fatal(a, b)
			}
		}
	}
}

func TestAttrCmp(t *testing.T) {
	l := fewAttrs()
	keys := keysOf(l, keyOf)
	for i, a := range l {
		for j, b := range l {
			if impl.AttrCmp(a, b) != strings.Compare(keys[i], keys[j]) {
				t.Fatal(a, b)
			}
		}
	}
}

// Each pair differs in what decides, and what comes later in the order speaks against it.
func TestAttrCmpExamples(t *testing.T) {
	for _, x := range [][2]impl.Attr{
		{{Path: []int{9, 9}, Pref: 101, Comm: []int{9}, Bw: 9}, {Path: []int{1}, Pref: 100}},
		{{Path: []int{9}, Pref: 1000}, {Pref: 0}},
		{{Path: []int{9}, Comm: []int{9}, Bw: 9}, {Path: []int{1, 1}}},
		{{Comm: []int{9}, Bw: 9}, {Path: []int{1}}},
		{{Path: []int{1, 9}, Comm: []int{9}, Bw: 9}, {Path: []int{2, 1}}},
		{{Path: []int{1, 2}, Comm: []int{9}, Bw: 9}, {Path: []int{1, 3}}},
		{{Bw: 9}, {Comm: []int{1}}},
		{{Comm: []int{1}, Bw: 9}, {Comm: []int{1, 2}}},
		{{Comm: []int{1, 9}, Bw: 9}, {Comm: []int{2}}},
		{{Comm: []int{1, 2, 3, 4}, Bw: 9}, {Comm: []int{1, 2, 3, 5}}},
		{{Bw: 9}, {Bw: 10}},
	} {
		if impl.AttrCmp(x[0], x[1]) != -1 || impl.AttrCmp(x[1], x[0]) != 1 || impl.AttrCmp(x[0], x[0]) != 0 {
			t.Error(x)
		}
	}
}

// Promise 3: attributes with the better rank come first in order.
func TestPromise3BetterComesFirst(t *testing.T) {
	l := fewAttrs()
	for _, a := range l {
		for _, b := range l {
			c := impl.AttrCmp(a, b)
			if impl.Better(a, b) && c != -1 || impl.Better(b, a) && c != 1 || (c == 0) != sameAttr(a, b) || c != -impl.AttrCmp(b, a) {
				t.Fatal(a, b, c)
			}
			if impl.Equal(a, b) == (impl.Better(a, b) || impl.Better(b, a)) {
				t.Fatal("rank", a, b)
			}
		}
	}
	slices.SortFunc(l, impl.AttrCmp)
	for i, a := range l {
		for _, b := range l[i:] {
			if impl.Better(b, a) || impl.AttrCmp(a, b) > 0 {
				t.Fatal("sorted", a, b)
			}
		}
	}
}

// Promise 3: among equal preferences a longer path is never better.
func TestPromise3LongerIsNeverBetter(t *testing.T) {
	l := fewAttrs()
	for _, a := range l {
		for _, b := range l {
			b.Pref = a.Pref
			if len(b.Path) > len(a.Path) && (impl.Better(b, a) || !impl.Better(a, b)) {
				t.Fatal(a, b)
			}
		}
		for _, n := range []int{1, 65535} {
			if b, ok := impl.Prepend(a, n); ok && (impl.Better(b, a) || impl.Equal(a, b) || impl.AttrCmp(a, b) != -1) {
				t.Fatal("longer by one", a, b)
			}
		}
	}
}

func TestAttrText(t *testing.T) {
	for s, a := range map[string]impl.Attr{
		"pref 0 bw 0 path":                                                 {},
		"pref 0 bw 0 path marks 1000":                                      {Comm: []int{1000}},
		"pref 100 bw 10 path 5 6":                                          {Path: []int{5, 6}, Pref: 100, Bw: 10},
		"pref 1000 bw 1000 path 65535 marks 1 65535":                       {Path: []int{65535}, Pref: 1000, Comm: []int{1, 65535}, Bw: 1000},
		"pref 1 bw 2 path 8 7 6 5 4 3 2 1 marks 10 20 30 40":               {Path: []int{8, 7, 6, 5, 4, 3, 2, 1}, Pref: 1, Comm: []int{10, 20, 30, 40}, Bw: 2},
		"pref 0 bw 0 path 1 1 1 1 1 1 1 1":                                 {Path: []int{1, 1, 1, 1, 1, 1, 1, 1}, Comm: []int{}},
		"pref 999 bw 1 path marks 65532 65533 65534 65535":                 {Path: []int{}, Pref: 999, Comm: []int{65532, 65533, 65534, 65535}, Bw: 1},
		"pref 7 bw 0 path 10 100 1000 10000 marks 10 100 1000 10000":       {Path: []int{10, 100, 1000, 10000}, Pref: 7, Comm: []int{10, 100, 1000, 10000}},
		"pref 10 bw 100 path 65535 65534 65533 65532 65531 65530 65529 42": {Path: []int{65535, 65534, 65533, 65532, 65531, 65530, 65529, 42}, Pref: 10, Bw: 100},
	} {
		if string(impl.AttrText(a)) != s {
			t.Errorf("%q: %q", s, impl.AttrText(a))
		}
	}
}

func TestAttrNilAndEmpty(t *testing.T) {
	a, b := impl.Attr{Pref: 5}, impl.Attr{Path: []int{}, Pref: 5, Comm: []int{}}
	if !impl.AttrOk(a) || !impl.AttrOk(b) || impl.AttrCmp(a, b) != 0 || !impl.Equal(a, b) || impl.Better(a, b) || impl.Better(b, a) {
		t.Error("nil and empty differ")
	}
	for _, x := range []impl.Attr{a, b} {
		if y, ok := impl.Prepend(x, 3); !ok || !sameAttr(y, impl.Attr{Path: []int{3}, Pref: 5}) {
			t.Error(y, ok)
		}
		if y, ok := impl.WithComm(x, 3); !ok || !sameAttr(y, impl.Attr{Pref: 5, Comm: []int{3}}) {
			t.Error(y, ok)
		}
		if y := impl.Shut(x); !sameAttr(y, a) {
			t.Error(y)
		}
		if impl.PathHas(x, 0) || string(impl.AttrText(x)) != "pref 5 bw 0 path" {
			t.Error(x)
		}
	}
}

// crowded gives the same attributes with Path and Comm side by side in one array, and this array.
func crowded(a impl.Attr) (impl.Attr, []int) {
	p, c := len(a.Path), len(a.Comm)
	whole := slices.Concat([]int{-1}, a.Path, a.Comm, []int{-2, -3, -4})
	a.Path, a.Comm = whole[1:1+p], whole[1+p:1+p+c]
	return a, whole
}

func TestAttrArgumentsKept(t *testing.T) {
	others := fewAttrs()[:3]
	for _, x := range slices.Concat(fewAttrs(), badAttrs()) {
		a, whole := crowded(x)
		was := slices.Clone(whole)
		for _, n := range append(badNumbers(), 1, 3, 1000, 65535) {
			impl.PathHas(a, n)
			impl.Prepend(a, n)
			impl.WithComm(a, n)
		}
		impl.AttrOk(a)
		impl.Shut(a)
		impl.AttrText(a)
		for _, b := range append(others, a) {
			impl.Better(a, b)
			impl.Equal(b, a)
			impl.AttrCmp(a, b)
			impl.AttrCmp(b, a)
		}
		if !slices.Equal(whole, was) {
			t.Fatal(x, whole)
		}
	}
}

func spoil(l []int) {
	l = l[:cap(l)]
	for i := range l {
		l[i] = -99
	}
}

func TestAttrResultsAreNew(t *testing.T) {
	for name, call := range map[string]func(impl.Attr) impl.Attr{
		"Shut":     impl.Shut,
		"Prepend":  func(a impl.Attr) impl.Attr { b, _ := impl.Prepend(a, 77); return b },
		"WithComm": func(a impl.Attr) impl.Attr { b, _ := impl.WithComm(a, 77); return b },
		"WithComm there": func(a impl.Attr) impl.Attr {
			b, _ := impl.WithComm(a, slices.Max(append([]int{1}, a.Comm...)))
			return b
		},
	} {
		for _, x := range append(fewAttrs(), badAttrs()...) {
			a, whole := crowded(x)
			was, want := slices.Clone(whole), call(x)
			first, second := call(a), call(a)
			comm := slices.Clone(first.Comm)
			spoil(first.Path)
			if !slices.Equal(first.Comm, comm) {
				t.Fatal(name, "Path and Comm share memory", x)
			}
			spoil(first.Comm)
			if !slices.Equal(whole, was) || !sameAttr(second, want) {
				t.Fatal(name, "shares its result", x)
			}
			path := slices.Clone(second.Path)
			spoil(whole)
			if !sameAttr(second, want) {
				t.Fatal(name, "keeps its argument", x)
			}
			spoil(second.Comm)
			if !slices.Equal(second.Path, path) {
				t.Fatal(name, "Comm and Path share memory", x)
			}
		}
	}
	a := impl.Attr{Path: []int{5}, Comm: []int{6}}
	text := impl.AttrText(a)
	fill(text[:cap(text)], '!')
	if string(impl.AttrText(a)) != "pref 0 bw 0 path 5 marks 6" {
		t.Error("AttrText shares its result")
	}
}
