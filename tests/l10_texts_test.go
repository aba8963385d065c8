package tests

import (
	"fmt"
	"slices"
	"strconv"
	"strings"
	"testing"

	"loop.example/g00557/impl"
)

func attrTextOf(a impl.Attr) string {
	text := fmt.Sprintf("pref %d bw %d path", a.Pref, a.Bw)
	for _, as := range a.Path {
		text += fmt.Sprintf(" %d", as)
	}
	if len(a.Comm) > 0 {
		text += " marks"
	}
	for _, comm := range a.Comm {
		text += fmt.Sprintf(" %d", comm)
	}
	return text
}

// nodeTextOf is the reference for NodeText with a valid switch.
func nodeTextOf(n impl.Node) string {
	text := fmt.Sprintf("as %d", n.As)
	if n.Drain {
		text += " goes"
	}
	text += "\n"
	for _, e := range n.Rib.L {
		from := fmt.Sprintf("if%d", e.Peer)
		if e.Peer == -1 {
			from = "own"
		}
		text += fmt.Sprintf("%s %s %s\n", textOf(e.Prefix), from, attrTextOf(e.Attr))
	}
	return text
}

// fabricTextOf is the reference for FabricText with a valid fabric.
func fabricTextOf(f impl.Fabric) string {
	text := ""
	for _, n := range f.Nodes {
		text += nodeTextOf(n)
	}
	for _, x := range f.Links {
		down := " down"
		if x.Up {
			down = ""
		}
		text += fmt.Sprintf("link %d %d%s %d %d\n", x.A, x.B, down, len(x.Ab), len(x.Ba))
	}
	return text
}

func checkNodeText(t *testing.T, n impl.Node, want string) {
	t.Helper()
	if got := impl.NodeText(n); string(got) != want {
		t.Fatalf("%v: %q and not %q", n, got, want)
	}
}

func checkFabricText(t *testing.T, f impl.Fabric, want string) {
	t.Helper()
	if got := impl.FabricText(f); string(got) != want {
		t.Fatalf("%s: %q and not %q", brief(f), got, want)
	}
}

func TestNodeText(t *testing.T) {
	for _, n := range append(goodNodes(), plainNode()) {
		checkNodeText(t, n, nodeTextOf(n))
		n.Drain = !n.Drain
		checkNodeText(t, n, nodeTextOf(n))
	}
	for _, n := range badNodes() {
		if got := impl.NodeText(n); len(got) != 0 {
			t.Fatal("not valid", n, string(got))
		}
	}
}

func TestNodeTextExamples(t *testing.T) {
	checkNodeText(t, impl.Node{As: 1}, "as 1\n")
	checkNodeText(t, impl.Node{As: 65535, Bw: 7, Drain: true}, "as 65535 goes\n")
	own := []impl.Prefix{{}, {Addr: 65535, Len: 16}}
	checkNodeText(t, nodeOf(9, own, 0, nil, nil), "as 9\n0.0/0 own pref 100 bw 0 path\n255.255/16 own pref 100 bw 0 path\n")
	checkNodeText(t, nodeOf(9, own[:1], 1000, nil, manyEntries(60, 3, 0)), "as 9\n0.0/0 own pref 100 bw 1000 path\n")
	n := plainNode()
	n.Drain = true
	checkNodeText(t, n, `as 77 goes
1.0/8 own pref 100 bw 10 path
1.0/9 if0 pref 100 bw 0 path 5 6 7
1.0/9 if7 pref 0 bw 3 path 9
2.0/8 own pref 100 bw 10 path
2.0/8 if2 pref 100 bw 0 path 5 6 7
2.0/8 if3 pref 100 bw 0 path 5 6 7
`)
}

// Paths and communities of all lengths, and all peers.
func TestNodeTextEveryEntry(t *testing.T) {
	p := impl.Prefix{Addr: 384, Len: 9}
	longest, marks := []int{8, 65535, 10, 1, 100, 8, 1000, 30000}, []int{1, 999, 1000, 65535}
	for hops := 1; hops <= len(longest); hops++ {
		for comms := range len(marks) + 1 {
			for peer := range 8 {
				a := impl.Attr{Path: longest[:hops], Pref: 10 * hops, Comm: marks[:comms], Bw: 1000 - comms}
				want := fmt.Sprintf("as 5\n1.128/9 if%d pref %d bw %d path %s", peer, 10*hops, 1000-comms, strings.Join(strings.Fields("8 65535 10 1 100 8 1000 30000")[:hops], " "))
				if comms > 0 {
					want += " marks " + strings.Join(strings.Fields("1 999 1000 65535")[:comms], " ")
				}
				checkNodeText(t, nodeOf(5, nil, 0, []impl.Entry{entryOf(p, peer, a)}, nil), want+"\n")
			}
		}
	}
}

func TestFabricText(t *testing.T) {
	for _, f := range goodFabrics(t) {
		checkFabricText(t, f, fabricTextOf(f))
	}
	for _, f := range badFabrics() {
		if got := impl.FabricText(f); len(got) != 0 {
			t.Fatal("not valid", brief(f), string(got))
		}
	}
}

func TestFabricTextExamples(t *testing.T) {
	checkFabricText(t, netOf(3, silent(1)), "as 1\n")
	checkFabricText(t, netOf(1, numbered(1)), "as 1\n1.0/8 own pref 100 bw 0 path\n")
	checkFabricText(t, netOf(1, silent(8)), "as 1\nas 2\nas 3\nas 4\nas 5\nas 6\nas 7\nas 8\n")
	f := netOf(4, silent(3), linkOf(2, 7, 0, 1), linkOf(0, 0, 1, 0), linkOf(1, 1, 2, 0), linkOf(1, 3, 0, 3))
	checkFabricText(t, f, "as 1\nas 2\nas 3\nlink 2 0 0 0\nlink 0 1 0 0\nlink 1 2 0 0\nlink 1 0 0 0\n")
	f.Links[0].Ab = repeated(plainUpdate(), 1)
	f.Links[1].Up = false
	f.Links[2].Ba = repeated(update(nil, nil, impl.Attr{}), 500)
	f.Links[3].Ab, f.Links[3].Ba = repeated(plainUpdate(), 10), repeated(plainUpdate(), 9)
	f.Nodes[1].Drain = true
	checkFabricText(t, f, "as 1\nas 2 goes\nas 3\nlink 2 0 1 0\nlink 0 1 down 0 0\nlink 1 2 0 500\nlink 1 0 10 9\n")
	line := settled(t, newFabric(t, numbered(2), linePairs(2), 2))
	checkFabricText(t, line, `as 1
1.0/8 own pref 100 bw 0 path
2.0/8 if0 pref 100 bw 0 path 2
as 2
1.0/8 if0 pref 100 bw 0 path 1
2.0/8 own pref 100 bw 0 path
link 0 1 0 0
`)
	checkFabricText(t, turned(t, line, 0, false), "as 1\n1.0/8 own pref 100 bw 0 path\nas 2\n2.0/8 own pref 100 bw 0 path\nlink 0 1 down 0 0\n")
	for _, n := range []int{0, 1, 9, 10, 99, 100, 499, 500} {
		two := netOf(1, silent(2), linkOf(1, 5, 0, 6))
		two.Links[0].Ab, two.Links[0].Ba = repeated(plainUpdate(), n), repeated(plainUpdate(), 500-n)
		checkFabricText(t, two, fmt.Sprintf("as 1\nas 2\nlink 1 0 %d %d\n", n, 500-n))
	}
}

func linesOf(t *testing.T, text []byte) []string {
	t.Helper()
	l := strings.Split(string(text), "\n")
	if l[len(l)-1] != "" {
		t.Fatalf("the last line is not ended: %q", text)
	}
	return l[:len(l)-1]
}

func numbersOf(t *testing.T, words []string) []int {
	t.Helper()
	var l []int
	for _, word := range words {
		n, err := strconv.Atoi(word)
		if err != nil {
			t.Fatal(words, err)
		}
		l = append(l, n)
	}
	return l
}

// entryFrom reads a line of an entry.
func entryFrom(t *testing.T, line string) impl.Entry {
	t.Helper()
	words := strings.Split(line, " ")
	e := impl.Entry{Peer: -1}
	e.Prefix, _ = impl.PrefixRead([]byte(words[0]))
	if words[1] != "own" {
		e.Peer = numbersOf(t, []string{strings.TrimPrefix(words[1], "if")})[0]
	}
	path, marks := words[7:], []string(nil)
	if at := slices.Index(path, "marks"); at >= 0 {
		path, marks = path[:at], path[at+1:]
	}
	numbers := numbersOf(t, []string{words[3], words[5]})
	e.Attr = impl.Attr{Path: numbersOf(t, path), Pref: numbers[0], Comm: numbersOf(t, marks), Bw: numbers[1]}
	return e
}

// checkNodeLines checks that a switch has a line and one more for each entry, from which the entry is recovered. It returns the lines after them.
func checkNodeLines(t *testing.T, n impl.Node, lines []string) []string {
	t.Helper()
	words := strings.Split(lines[0], " ")
	if words[0] != "as" || numbersOf(t, words[1:2])[0] != n.As || (len(words) == 3 && words[2] == "goes") != n.Drain || len(words) > 3 {
		t.Fatal(n, lines[0])
	}
	for i, e := range n.Rib.L {
		if got := entryFrom(t, lines[1+i]); !sameEntries([]impl.Entry{got}, []impl.Entry{e}) {
			t.Fatal(e, lines[1+i], got)
		}
	}
	return lines[1+len(n.Rib.L):]
}

// Promise 15: the text of a switch has one line and one more for each entry.
func TestPromise15LinesOfSwitches(t *testing.T) {
	for _, n := range goodNodes() {
		if rest := checkNodeLines(t, n, linesOf(t, impl.NodeText(n))); len(rest) > 0 {
			t.Fatal(n, rest)
		}
	}
}

// Promise 15: the text of a fabric has the lines of each switch, in order, and one for each link.
func TestPromise15LinesOfFabrics(t *testing.T) {
	for _, f := range goodFabrics(t) {
		text := string(impl.FabricText(f))
		lines := linesOf(t, []byte(text))
		for _, n := range f.Nodes {
			lines = checkNodeLines(t, n, lines)
			if own := string(impl.NodeText(n)); strings.HasPrefix(text, own) {
				text = text[len(own):]
			} else {
				t.Fatalf("%q does not begin with %q", text, own)
			}
		}
		if len(lines) != len(f.Links) || !slices.Equal(linesOf(t, []byte(text)), lines) {
			t.Fatal(brief(f), lines)
		}
		for i, x := range f.Links {
			words := strings.Split(lines[i], " ")
			up := len(words) == 5
			if !up && words[3] == "down" {
				words = slices.Delete(words, 3, 4)
			}
			if words[0] != "link" || up != x.Up || !slices.Equal(numbersOf(t, words[1:]), []int{x.A, x.B, len(x.Ab), len(x.Ba)}) {
				t.Fatal(brief(f), lines[i])
			}
		}
	}
}
