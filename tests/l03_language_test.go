package tests

import (
	"math"
	"math/rand"
	"regexp"
	"slices"
	"strconv"
	"strings"
	"testing"

	"loop.example/g00852/impl"
)

// The lines of nodes and pipes whose words have the right form; their numbers may be out of range.
var (
	nodeForm = regexp.MustCompile(`\Anode ([a-z0-9]{1,8}) (0|[1-9][0-9]{0,9}) (0|[1-9][0-9]{0,9})\z`)
	pipeForm = regexp.MustCompile(`\Apipe ([a-z0-9]{1,8}) ([a-z0-9]{1,8}) (0|[1-9][0-9]{0,9}) (0|[1-9][0-9]{0,9}) (0|[1-9][0-9]{0,9})\z`)
)

// numberWords are words at the place of a number, most of which are wrong in each place.
var numberWords = []string{
	"0", "1", "2", "9", "10", "999", "1000", "1001", "29999", "30000", "30001", "999999", "1000000", "1000001",
	"99999999", "100000000", "100000001", "1000000000", "4294967297", "9223372036854775807", "9223372036854775808",
	"18446744073709551616", "18446744073709551617", "340282366920938463463374607431768211457", strings.Repeat("1", 300),
	"-0", "-1", "-5", "-9223372036854775808", "-9223372036854775809", "+0", "+1", "+5", "--1", "-", "+", "",
	"00", "01", "05", "007", "0000000001", "-01", "1_0", "1,0", "1.0", "1.", "1e3", "0x1", "0b1", "0o1", "1a", "a", "a1",
	"1\t", "\t1", "1\r", "1\x00", "\u00a01", "\u0661", "\uff11", "1\u0661", "1\xff", "\xff", "'1'", "1 1",
}

// wrongBytes are put into texts, or take the place of one of their bytes.
var wrongBytes = []byte(" \n019-+_.azANP\t\r\x00\x0b\x7f\x80\xa0\xc3\xff")

// longName returns a name of eight bytes.
func longName(i int) string {
	return "n" + strconv.Itoa(1000000+i)
}

// longestNetwork has the longest text of all.
func longestNetwork() impl.Network {
	n := impl.Network{}
	for i := range impl.MaxNodes {
		n.Nodes = append(n.Nodes, impl.Node{Name: longName(i), Low: impl.MaxLevel, High: impl.MaxLevel})
	}
	for i := range int64(impl.MaxPipes) {
		n.Pipes = append(n.Pipes, impl.Pipe{
			From: i % impl.MaxNodes, To: (i + 7) % impl.MaxNodes, K: impl.MaxResistance, Volume: impl.MaxVolume, Limit: impl.MaxFlow,
		})
	}
	return n
}

// oddNetwork has names that are words or numbers, and numbers at their limits.
func oddNetwork() impl.Network {
	return impl.Network{
		Nodes: []impl.Node{
			{Name: "node"}, {Name: "pipe", High: impl.MaxLevel}, {Name: "0", Low: 7, High: 7}, {Name: "00", High: 1},
			{Name: "abcdefgh", Low: impl.MaxLevel, High: impl.MaxLevel}, {Name: "12345678", Low: 10, High: 100},
		},
		Pipes: []impl.Pipe{
			{From: 0, To: 1, K: 1, Volume: 0, Limit: 1}, {From: 1, To: 0, K: 1000, Volume: 1000000, Limit: 30000},
			{From: 2, To: 3, K: 10, Volume: 20, Limit: 30}, {From: 5, To: 4, K: 999, Volume: 999999, Limit: 29999},
			{From: 0, To: 1, K: 1, Volume: 0, Limit: 1},
		},
	}
}

const oddText = "node node 0 0\nnode pipe 0 100000000\nnode 0 7 7\nnode 00 0 1\n" +
	"node abcdefgh 100000000 100000000\nnode 12345678 10 100\n" +
	"pipe node pipe 1 0 1\npipe pipe node 1000 1000000 30000\npipe 0 00 10 20 30\n" +
	"pipe 12345678 abcdefgh 999 999999 29999\npipe node pipe 1 0 1\n"

func someName(r *rand.Rand) string {
	name := make([]byte, 1+r.Intn(impl.MaxName))
	for i := range name {
		name[i] = "abcdefghijklmnopqrstuvwxyz0123456789"[r.Intn(36)]
	}
	return string(name)
}

// withSomeNumbers gives the nodes and pipes of a network other names and numbers, of all sizes.
func withSomeNumbers(r *rand.Rand, n impl.Network) impl.Network {
	n = copyOf(n)
	taken := map[string]bool{}
	for i := range n.Nodes {
		name := someName(r)
		for taken[name] {
			name = someName(r)
		}
		taken[name] = true
		high := r.Int63n(1 + impl.MaxLevel>>uint(r.Intn(27)))
		n.Nodes[i] = impl.Node{Name: name, Low: r.Int63n(high + 1), High: high}
	}
	for i := range n.Pipes {
		n.Pipes[i].K = 1 + r.Int63n(1+(impl.MaxResistance-1)>>uint(r.Intn(10)))
		n.Pipes[i].Volume = r.Int63n(1 + impl.MaxVolume>>uint(r.Intn(20)))
		n.Pipes[i].Limit = 1 + r.Int63n(1+(impl.MaxFlow-1)>>uint(r.Intn(15)))
	}
	return n
}

// networksToWrite are networks with names and numbers of all kinds.
func networksToWrite() []impl.Network {
	list := append(someNetworks(), oddNetwork(), longestNetwork())
	r := rand.New(rand.NewSource(3))
	for _, n := range slices.Clone(list) {
		list = append(list, withSomeNumbers(r, n))
	}
	return list
}

// textByDefinition writes a valid network as the document says.
func textByDefinition(n impl.Network) string {
	number := func(x int64) string { return strconv.FormatInt(x, 10) }
	text := ""
	for _, x := range n.Nodes {
		text += "node " + x.Name + " " + number(x.Low) + " " + number(x.High) + "\n"
	}
	for _, p := range n.Pipes {
		text += "pipe " + n.Nodes[p.From].Name + " " + n.Nodes[p.To].Name
		text += " " + number(p.K) + " " + number(p.Volume) + " " + number(p.Limit) + "\n"
	}
	return text
}

// wrongLineByDefinition looks for the first wrong line with forms and a list of names alone.
func wrongLineByDefinition(s string) int64 {
	lines := strings.SplitAfter(s, "\n")
	if s != "" && lines[len(lines)-1] == "" {
		lines = lines[:len(lines)-1]
	}
	names := []string{}
	pipes := 0
	between := func(word string, low, high int64) bool {
		x, _ := strconv.ParseInt(word, 10, 64)
		return low <= x && x <= high
	}
	for k, ended := range lines {
		line, found := strings.CutSuffix(ended, "\n")
		node, pipe := nodeForm.FindStringSubmatch(line), pipeForm.FindStringSubmatch(line)
		right := false
		if node != nil {
			low, _ := strconv.ParseInt(node[2], 10, 64)
			right = pipes == 0 && len(names) < 24 && !slices.Contains(names, node[1]) && between(node[3], low, 100000000)
			names = append(names, node[1])
		} else if pipe != nil {
			right = pipes < 40 && slices.Contains(names, pipe[1]) && slices.Contains(names, pipe[2]) && pipe[1] != pipe[2] &&
				between(pipe[3], 1, 1000) && between(pipe[4], 0, 1000000) && between(pipe[5], 1, 30000)
			pipes++
		}
		if !found || !right {
			return int64(k)
		}
	}
	return -1
}

func wantText(t *testing.T, call, got, want string) {
	t.Helper()
	if got != want {
		t.Errorf("%s returned %q, not %q", call, got, want)
	}
}

// wantNoNetwork checks that a text is rejected, with its first wrong line.
func wantNoNetwork(t *testing.T, s string, wrong int64) {
	t.Helper()
	if n, ok := impl.ReadNetwork(s); ok || !sameNetwork(n, impl.Network{}) {
		t.Errorf("ReadNetwork(%q) returned %v and %v", s, n, ok)
	}
	got, code := impl.FirstWrongLine(s)
	wantNumber(t, "FirstWrongLine of "+strconv.Quote(s), got, code, wrong, impl.ErrNone)
}

// wantNetworkText checks a text and its network, in both directions.
func wantNetworkText(t *testing.T, s string, want impl.Network) {
	t.Helper()
	wantText(t, "NetworkText", impl.NetworkText(want), s)
	got, ok := impl.ReadNetwork(s)
	if !ok || !sameNetwork(got, want) {
		t.Errorf("ReadNetwork(%q) returned %v and %v", s, got, ok)
	}
	wrong, code := impl.FirstWrongLine(s)
	wantNumber(t, "FirstWrongLine of "+strconv.Quote(s), wrong, code, -1, impl.ErrNone)
}

// wantByDefinition checks a text of which it is not known whether it is that of a network.
func wantByDefinition(t *testing.T, s string) {
	t.Helper()
	if wrong := wrongLineByDefinition(s); wrong >= 0 {
		wantNoNetwork(t, s, wrong)
		return
	}
	n, _ := impl.ReadNetwork(s)
	wantNetworkText(t, s, n)
}

// wantNodeLine checks what a line is read as, and a line of a node also in the other direction and
// as a text of its own.
func wantNodeLine(t *testing.T, s string, want impl.Node, wantOk bool) {
	t.Helper()
	if got, ok := impl.ReadNodeLine(s); got != want || ok != wantOk {
		t.Errorf("ReadNodeLine(%q) returned %v and %v", s, got, ok)
	}
	if wantOk {
		wantText(t, "NodeLine", impl.NodeLine(want), s)
		wantNetworkText(t, s+"\n", impl.Network{Nodes: []impl.Node{want}})
	}
}

func TestNetworksAndTheirTexts(t *testing.T) {
	if impl.MaxNetworkText != 4000 {
		t.Errorf("the limit is %d", impl.MaxNetworkText)
	}
	wantNetworkText(t, "node a 0 0\n", impl.Network{Nodes: []impl.Node{{Name: "a"}}})
	wantNetworkText(t, "node b 5 10000\nnode a 0 7\n", impl.Network{Nodes: []impl.Node{{Name: "b", Low: 5, High: 10000}, {Name: "a", High: 7}}})
	wantNetworkText(t, "node a 0 9\nnode b 5 8\npipe b a 3 2 50\n", impl.Network{
		Nodes: []impl.Node{{Name: "a", High: 9}, {Name: "b", Low: 5, High: 8}},
		Pipes: []impl.Pipe{{From: 1, To: 0, K: 3, Volume: 2, Limit: 50}},
	})
	wantNetworkText(t, oddText, oddNetwork())
	if length := len(impl.NetworkText(longestNetwork())); length != 24*34+40*42 {
		t.Errorf("the longest text has %d bytes", length)
	}
}

// TestNetworksAreRecoveredFromTheirTexts checks promise 3 for networks, nodes and their lines.
func TestNetworksAreRecoveredFromTheirTexts(t *testing.T) {
	for _, n := range networksToWrite() {
		wantNetworkText(t, textByDefinition(n), n)
		for _, x := range n.Nodes {
			wantNodeLine(t, impl.NodeLine(x), x, true)
		}
	}
}

// TestTextsConsistOfLines puts texts together from the lines of nodes and pipes.
func TestTextsConsistOfLines(t *testing.T) {
	for _, n := range networksToWrite() {
		text := ""
		for _, x := range n.Nodes {
			text += impl.NodeLine(x) + "\n"
		}
		for i := range n.Pipes {
			line, code := impl.PipeLine(n, int64(i))
			if code != impl.ErrNone {
				t.Fatalf("PipeLine(%v, %d) returned the code %d", n, i, code)
			}
			text += line + "\n"
		}
		wantText(t, "NetworkText", impl.NetworkText(n), text)
	}
}

func TestNoTextOfInvalidNetworks(t *testing.T) {
	n := oddNetwork()
	for _, x := range invalidNetworks(n) {
		wantText(t, "NetworkText of an invalid network", impl.NetworkText(x), "")
	}
	wantText(t, "NetworkText", impl.NetworkText(n), oddText)
}

// invalidNetworks are made from a network with at least four nodes and two pipes.
func invalidNetworks(n impl.Network) []impl.Network {
	list := []impl.Network{
		{}, {Pipes: n.Pipes}, {Nodes: n.Nodes[:1], Pipes: n.Pipes}, networkOf(impl.MaxNodes + 1),
		{Nodes: n.Nodes, Pipes: slices.Repeat(n.Pipes[:1], impl.MaxPipes+1)},
	}
	changes := []func(x *impl.Node, p *impl.Pipe){
		func(x *impl.Node, _ *impl.Pipe) { x.Name = "" },
		func(x *impl.Node, _ *impl.Pipe) { x.Name = "A" },
		func(x *impl.Node, _ *impl.Pipe) { x.Name = "a b" },
		func(x *impl.Node, _ *impl.Pipe) { x.Name = "a\n" },
		func(x *impl.Node, _ *impl.Pipe) { x.Name = "abcdefghi" },
		func(x *impl.Node, _ *impl.Pipe) { x.Name = n.Nodes[2].Name },
		func(x *impl.Node, _ *impl.Pipe) { x.Low = -1 },
		func(x *impl.Node, _ *impl.Pipe) { x.Low = x.High + 1 },
		func(x *impl.Node, _ *impl.Pipe) { x.High = impl.MaxLevel + 1 },
		func(_ *impl.Node, p *impl.Pipe) { p.From = p.To },
		func(_ *impl.Node, p *impl.Pipe) { p.From = -1 },
		func(_ *impl.Node, p *impl.Pipe) { p.To = math.MaxInt64 },
		func(_ *impl.Node, p *impl.Pipe) { p.To = int64(len(n.Nodes)) },
		func(_ *impl.Node, p *impl.Pipe) { p.K = 0 },
		func(_ *impl.Node, p *impl.Pipe) { p.K = impl.MaxResistance + 1 },
		func(_ *impl.Node, p *impl.Pipe) { p.Volume = -1 },
		func(_ *impl.Node, p *impl.Pipe) { p.Volume = impl.MaxVolume + 1 },
		func(_ *impl.Node, p *impl.Pipe) { p.Limit = 0 },
		func(_ *impl.Node, p *impl.Pipe) { p.Limit = impl.MaxFlow + 1 },
	}
	for _, change := range changes {
		list = append(list, changed(n, func(n *impl.Network) { change(&n.Nodes[0], &n.Pipes[1]) }))
	}
	return list
}

func TestLinesOfNodes(t *testing.T) {
	cases := []struct {
		line string
		node impl.Node
	}{
		{"node a 0 0", impl.Node{Name: "a"}},
		{"node b 5 10000", impl.Node{Name: "b", Low: 5, High: 10000}},
		{"node node 1 1", impl.Node{Name: "node", Low: 1, High: 1}},
		{"node pipe 0 10", impl.Node{Name: "pipe", High: 10}},
		{"node 0 0 1", impl.Node{Name: "0", High: 1}},
		{"node 007 99 100", impl.Node{Name: "007", Low: 99, High: 100}},
		{"node z9 0 100000000", impl.Node{Name: "z9", High: impl.MaxLevel}},
		{"node abcdefgh 100000000 100000000", impl.Node{Name: "abcdefgh", Low: impl.MaxLevel, High: impl.MaxLevel}},
	}
	for _, c := range cases {
		wantNodeLine(t, c.line, c.node, true)
	}
	for _, x := range []impl.Node{
		{}, {Name: "A"}, {Name: "a b", High: 1}, {Name: "a\n"}, {Name: "abcdefghi"}, {Name: "\u00e4"}, {Name: "a", Low: -1},
		{Name: "a", Low: 1}, {Name: "a", Low: 6, High: 5}, {Name: "a", High: impl.MaxLevel + 1},
		{Name: "a", Low: impl.MaxLevel + 1, High: impl.MaxLevel + 1}, {Name: "a", Low: math.MinInt64, High: math.MaxInt64},
	} {
		wantText(t, "NodeLine of an invalid node", impl.NodeLine(x), "")
	}
}

// wrongNodeLines are lines of no node, each for another reason.
var wrongNodeLines = []string{
	"", " ", "\n", "a", "node", "node ", "node a", "node a ", "node a 1", "node a 1 ", "node a 1 2 ", "node a 1 2 3", "node a 1 2  ",
	" node a 1 2", "node  a 1 2", "node a  1 2", "node a 1  2", "node  1 2", "node   ", "    ", "a 1 2", "1 2",
	"node\ta\t1\t2", "node a 1\t2", "node a 1\u00a02", "node,a,1,2", "nodea 1 2", "node a1 2", "node a 12",
	"Node a 1 2", "NODE a 1 2", "nod a 1 2", "nodes a 1 2", "pipe a 1 2", "\ufeffnode a 1 2", "node\x00 a 1 2",
	"node A 1 2", "node a- 1 2", "node a. 1 2", "node abcdefghi 1 2", "node \u00e4 1 2", "node a\xff 1 2", "node \x00 1 2",
	"node a 2 1", "node a 0 100000001", "node a 100000001 100000001", "node 1 2 a", "node 1 a 2",
	"node a 1 2\n", "node a 1 2\r", "node a 1 2\r\n", "\nnode a 1 2", "node a 1\n2", "node a\n1 2", "node a 1 2\n\n",
	"node a 1 2\nnode b 1 2", "node a 1 2\nnode b 1 2\n", "node a 1 2 node b 1 2", "node a 1 2\nnode a 1 2",
	"pipe", "pipe a b 1 2 3", "pipe a a 1 2 3", "pipe node a 1 2 3", "pipe  1 2", "pipe   1 2 3", "pipe 0 1 1 2 3",
}

func TestLinesOfNoNode(t *testing.T) {
	for _, s := range wrongNodeLines {
		wantNodeLine(t, s, impl.Node{}, false)
	}
	for _, word := range numberWords {
		x, err := strconv.ParseInt(word, 10, 64)
		right := err == nil && strconv.FormatInt(x, 10) == word && 0 <= x && x <= impl.MaxLevel
		low, high := impl.Node{}, impl.Node{}
		if right {
			low, high = impl.Node{Name: "a", Low: x, High: impl.MaxLevel}, impl.Node{Name: "a", High: x}
		}
		wantNodeLine(t, "node a "+word+" 100000000", low, right)
		wantNodeLine(t, "node a 0 "+word, high, right)
	}
}

func TestBytesOfNodeLines(t *testing.T) {
	line := "node ab 10 250"
	for i := range len(line) + 1 {
		for b := range 256 {
			for _, s := range []string{line[:i] + string([]byte{byte(b)}) + line[i:], line[:i] + string([]byte{byte(b)}) + line[min(i+1, len(line)):]} {
				node := nodeForm.FindStringSubmatch(s)
				want := impl.Node{}
				if node != nil {
					low, _ := strconv.ParseInt(node[2], 10, 64)
					high, _ := strconv.ParseInt(node[3], 10, 64)
					if low <= high && high <= 100000000 {
						want = impl.Node{Name: node[1], Low: low, High: high}
					}
				}
				wantNodeLine(t, s, want, want.Name != "")
			}
		}
	}
}

func TestFirstWrongLine(t *testing.T) {
	two := "node a 0 9\nnode b 5 8\n"
	three := two + "pipe b a 3 2 50\n"
	cases := []struct {
		text  string
		wrong int64
	}{
		// The empty text, empty lines, and texts without their last newline.
		{"", 0}, {"\n", 0}, {"\n\n", 0}, {"\n" + three, 0}, {three + "\n", 3}, {"node a 0 9\n\nnode b 5 8\n", 1}, {two + "\n" + "pipe b a 3 2 50\n", 2},
		{"node a 0 9", 0}, {"x", 0}, {" ", 0}, {two[:len(two)-1], 1}, {three[:len(three)-1], 2}, {three + "x", 3}, {three + " ", 3},
		{three + "pipe b a 3 2 50", 3}, {"x\nnode a 0 9", 0}, {"node a 0 9\nx\nnode b 0 9", 1}, {three + "\nx", 3},
		// Pipes before their nodes, of nodes that are not there, and from a node to itself.
		{"pipe b a 3 2 50\n", 0}, {"pipe b a 3 2 50\n" + two, 0}, {"node a 0 9\npipe b a 3 2 50\nnode b 5 8\n", 1},
		{"node b 0 9\npipe b a 3 2 50\nnode a 5 8\n", 1}, {two + "pipe a c 3 2 50\n", 2}, {two + "pipe c a 3 2 50\n", 2},
		{two + "pipe a c 3 2 50\nnode c 0 0\n", 2}, {three + "node c 0 0\n", 3}, {three + "node b 5 8\n", 3},
		{two + "pipe a a 3 2 50\n", 2}, {three + "pipe b b 3 2 50\n", 3}, {two + "pipe 0 1 3 2 50\n", 2}, {two + "pipe A b 3 2 50\n", 2},
		// Two nodes with one name.
		{"node a 0 9\nnode a 0 9\n", 1}, {"node a 0 9\nnode a 1 2\n", 1}, {two + "node b 5 8\n", 2}, {two + "node a 0 0\nnode c 0 0\n", 2},
		// Words too many, too few, too far apart and of other kinds.
		{two + "pipe b a 3 2\n", 2}, {two + "pipe b a 3 2 50 \n", 2}, {two + "pipe b a 3 2 50 1\n", 2}, {two + "pipe b  a 3 2 50\n", 2},
		{two + " pipe b a 3 2 50\n", 2}, {two + "pipe  b a 3 2 50\n", 2}, {two + "pipe b a 3 2  50\n", 2}, {two + "pipe b a 3  50\n", 2},
		{two + "pipe b a  3 2 50\n", 2}, {two + "pipe b a 3  2 50\n", 2}, {two + "pipe b a\n", 2}, {two + "pipe\n", 2}, {two + "pipe \n", 2},
		{two + "pipes b a 3 2 50\n", 2}, {two + "Pipe b a 3 2 50\n", 2}, {two + "node b a 3 2 50\n", 2}, {two + "b a 3 2 50\n", 2},
		{two + "pipe b a 3 2 50\r\n", 2}, {two + "pipe\tb a 3 2 50\n", 2}, {two + "pipe b a 3 2 50\x00\n", 2}, {two + "pipe b \u00e4 3 2 50\n", 2},
		{"node a 0 9\r\nnode b 5 8\r\n", 0}, {two + "# a\n", 2}, {two + "pipe b a 3 2 50 ; \n", 2}, {two + "      \n", 2},
		// The least of several wrong lines.
		{"x\ny\nz\n", 0}, {"node a 0 9\ny\nz\n", 1}, {two + "y\nz\n", 2}, {three + "y\nz\n", 3}, {two + "node a 0 9\nnode a 0 9\nx", 2},
		{three, -1}, {two, -1}, {"node a 0 9\n", -1},
	}
	for _, c := range cases {
		if c.wrong >= 0 {
			wantNoNetwork(t, c.text, c.wrong)
		}
		got, code := impl.FirstWrongLine(c.text)
		wantNumber(t, "FirstWrongLine of "+strconv.Quote(c.text), got, code, c.wrong, impl.ErrNone)
		if byDefinition := wrongLineByDefinition(c.text); byDefinition != c.wrong {
			t.Errorf("the test's own definition says %d for %q, not %d", byDefinition, c.text, c.wrong)
		}
	}
}

// TestNumbersOfLines puts words at the place of each number of a text.
func TestNumbersOfLines(t *testing.T) {
	for place := range 7 {
		for _, word := range numberWords {
			words := []string{"0", "100000000", "0", "100000000", "3", "2", "50"}
			words[place] = word
			line := "pipe b a " + strings.Join(words[4:], " ")
			text := "node a " + words[0] + " " + words[1] + "\nnode b " + words[2] + " " + words[3] + "\n" + line + "\npipe a b 1 1 1\n"
			wantByDefinition(t, text)
		}
	}
}

func TestLimitsOfNumbers(t *testing.T) {
	two := "node a 0 9\nnode b 5 8\n"
	for _, c := range []struct {
		line  string
		right bool
	}{
		{"node c 0 100000000", true}, {"node c 100000000 100000000", true}, {"node c 0 100000001", false}, {"node c 100000001 100000001", false},
		{"node c 9 9", true}, {"node c 10 9", false}, {"node c -1 9", false}, {"node c -1 -1", false},
		{"pipe a b 1 0 1", true}, {"pipe a b 1000 1000000 30000", true}, {"pipe a b 0 0 1", false}, {"pipe a b 1001 0 1", false},
		{"pipe a b 1 -1 1", false}, {"pipe a b 1 1000001 1", false}, {"pipe a b 1 0 0", false}, {"pipe a b 1 0 30001", false},
		{"pipe a b -1 0 1", false}, {"pipe a b 1 0 -1", false}, {"pipe a b 18446744073709551617 0 1", false}, {"pipe a b 1 0 18446744073709551617", false},
		{"pipe a b 9223372036854775808 0 1", false}, {"node c 0 18446744073709551616", false}, {"node c 0 9223372036854775807", false},
	} {
		if !c.right {
			wantNoNetwork(t, two+c.line+"\n", 2)
			continue
		}
		n, ok := impl.ReadNetwork(two + c.line + "\n")
		if !ok || len(n.Nodes)+len(n.Pipes) != 3 {
			t.Errorf("ReadNetwork with the line %q returned %v and %v", c.line, n, ok)
		}
		wantNetworkText(t, two+c.line+"\n", n)
	}
}

// TestChangedBytes changes every byte of a text.
func TestChangedBytes(t *testing.T) {
	text := "node a1 0 9\nnode b 5 8\nnode c 0 0\npipe b a1 3 0 50\npipe c b 10 2 1\n"
	for i := range len(text) + 1 {
		wantByDefinition(t, text[:i])
		wantByDefinition(t, text[i:])
		wantByDefinition(t, text[:i]+text[min(i+1, len(text)):])
		for _, b := range wrongBytes {
			wantByDefinition(t, text[:i]+string([]byte{b})+text[i:])
			wantByDefinition(t, text[:i]+string([]byte{b})+text[min(i+1, len(text)):])
		}
	}
}

// TestChangedLines drops, repeats, joins and exchanges lines and words of texts.
func TestChangedLines(t *testing.T) {
	r := rand.New(rand.NewSource(5))
	for _, n := range append(networksToWrite()[:60], oddNetwork(), longestNetwork()) {
		text := textByDefinition(n)
		for range 20 {
			lines := strings.SplitAfter(text, "\n")
			i, j := r.Intn(len(lines)), r.Intn(len(lines))
			switch r.Intn(5) {
			case 0:
				lines = slices.Delete(lines, i, i+1)
			case 1:
				lines = slices.Insert(lines, i, lines[j])
			case 2:
				lines[i], lines[j] = lines[j], lines[i]
			case 3:
				lines[i] = strings.TrimSuffix(lines[i], "\n")
			case 4:
				words := strings.Split(lines[i], " ")
				words[r.Intn(len(words))] = numberWords[r.Intn(len(numberWords))]
				lines[i] = strings.Join(words, " ")
			}
			edited := strings.Join(lines, "")
			if len(edited) <= impl.MaxNetworkText {
				wantByDefinition(t, edited)
			}
		}
	}
}

// TestLinesInFrontOfAWrongOne checks that the lines in front of the first wrong one are a text.
func TestLinesInFrontOfAWrongOne(t *testing.T) {
	text := textByDefinition(longestNetwork())
	lines := strings.SplitAfter(text, "\n")
	for k := range impl.MaxNodes + impl.MaxPipes {
		front := strings.Join(lines[:k], "")
		for _, wrong := range []string{"\n", "x\n", "x", "node\n", "pipe\n", lines[k][:len(lines[k])-1]} {
			wantNoNetwork(t, front+wrong, int64(k))
		}
		wantNoNetwork(t, front+"x\n"+strings.Join(lines[k:], ""), int64(k))
		if k > 0 {
			n, ok := impl.ReadNetwork(front)
			if !ok || len(n.Nodes) != min(k, impl.MaxNodes) || len(n.Pipes) != max(0, k-impl.MaxNodes) {
				t.Errorf("ReadNetwork of %d lines returned %v and %v", k, n, ok)
			}
		}
	}
}

func TestTooManyNodesAndPipes(t *testing.T) {
	nodes := func(count int) string {
		text := ""
		for i := range count {
			text += "node n" + strconv.Itoa(i) + " 0 1\n"
		}
		return text
	}
	pipes := func(count int) string { return strings.Repeat("pipe n1 n0 1 2 3\n", count) }
	for _, count := range []int{2, 23, 24, 25, 26, 100} {
		if count <= 24 {
			wantNetworkText(t, nodes(count), withBounds(networkOf(count), 0, 1))
		} else {
			wantNoNetwork(t, nodes(count), 24)
			wantNoNetwork(t, nodes(count)+pipes(1), 24)
		}
	}
	for _, count := range []int{1, 39, 40, 41, 42, 100} {
		if count <= 40 {
			n := withBounds(networkOf(24), 0, 1)
			n.Pipes = slices.Repeat([]impl.Pipe{{From: 1, To: 0, K: 1, Volume: 2, Limit: 3}}, count)
			wantNetworkText(t, nodes(24)+pipes(count), n)
		} else {
			wantNoNetwork(t, nodes(24)+pipes(count), 64)
			wantNoNetwork(t, nodes(2)+pipes(count), 42)
		}
	}
}

// withBounds gives all nodes the same bounds.
func withBounds(n impl.Network, low, high int64) impl.Network {
	for i := range n.Nodes {
		n.Nodes[i].Low, n.Nodes[i].High = low, high
	}
	return n
}

func TestTextsAtTheLimit(t *testing.T) {
	cases := []struct {
		front, filler string
		wrong         int64
	}{
		{oddText, "x", 11}, {oddText, "\n", 11}, {oddText, "pipe 0 00 1 0 1\n", 46}, {"", " ", 0}, {"", "\n", 0}, {"", "9", 0},
		{"", "\xff", 0}, {"", "node ", 0}, {"node", " ", 0}, {"node ", "a", 0}, {"node a 0 1\nnode b 0 ", "0", 1}, {"node a 0 ", "1", 0},
		{"node a 0 1\npipe ", "a ", 1}, {"node a 0 1\npipe a a ", "1 ", 1},
	}
	for _, length := range []int{3999, 4000, 4001, 4002, 8000, 1000000} {
		for _, c := range cases {
			s := c.front + strings.Repeat(c.filler, length)[:length-len(c.front)]
			want, wantCode := c.wrong, int64(impl.ErrNone)
			if length > 4000 {
				want, wantCode = 0, impl.ErrLimit
			}
			call := strconv.Itoa(length) + " bytes, " + strconv.Quote(c.front) + " and many " + strconv.Quote(c.filler)
			got, code := impl.FirstWrongLine(s)
			wantNumber(t, "FirstWrongLine of "+call, got, code, want, wantCode)
			if n, ok := impl.ReadNetwork(s); ok || !sameNetwork(n, impl.Network{}) {
				t.Errorf("ReadNetwork of %s returned %v and %v", call, n, ok)
			}
			if x, ok := impl.ReadNodeLine(s); ok || x != (impl.Node{}) {
				t.Errorf("ReadNodeLine of %s returned %v and %v", call, x, ok)
			}
		}
	}
}

func TestPipeLine(t *testing.T) {
	want := []string{
		"pipe node pipe 1 0 1", "pipe pipe node 1000 1000000 30000", "pipe 0 00 10 20 30",
		"pipe 12345678 abcdefgh 999 999999 29999", "pipe node pipe 1 0 1",
	}
	for i, line := range want {
		got, code := impl.PipeLine(oddNetwork(), int64(i))
		wantText(t, "PipeLine", got, line)
		if code != impl.ErrNone {
			t.Errorf("PipeLine returned the code %d", code)
		}
	}
}

// wantNoLine checks an error of PipeLine.
func wantNoLine(t *testing.T, n impl.Network, pipe, want int64) {
	t.Helper()
	if line, code := impl.PipeLine(n, pipe); line != "" || code != want {
		t.Errorf("PipeLine(%v, %d) returned %q and the code %d, not %d", n, pipe, line, code, want)
	}
}

func TestErrorsOfPipeLine(t *testing.T) {
	for _, k := range append([]int64{impl.MaxPipes}, noIndices...) {
		wantNoLine(t, oddNetwork(), k, impl.ErrRange)
		wantNoLine(t, longestNetwork(), k, impl.ErrRange)
	}
	wantNoLine(t, oddNetwork(), 5, impl.ErrRange)
	wantNoLine(t, networkOf(3), 0, impl.ErrRange)
	wantNoLine(t, networkOf(3, pipe(0, 1)), 1, impl.ErrRange)
	for _, n := range invalidNetworks(oddNetwork()) {
		for _, k := range append([]int64{0, 1, 4, 5}, noIndices...) {
			wantNoLine(t, n, k, impl.ErrInvalid)
		}
	}
}

func TestRenameNode(t *testing.T) {
	for _, n := range []impl.Network{networkOf(1), mixedNetwork(), oddNetwork(), longestNetwork()} {
		for i, x := range n.Nodes {
			for _, name := range []string{"z", "zzzzzzzz", "9", "99999999", "a0", x.Name} {
				want := changed(n, func(n *impl.Network) { n.Nodes[i].Name = name })
				got, code := impl.RenameNode(n, int64(i), name)
				wantNetwork(t, "RenameNode", got, code, want, impl.ErrNone)
				wantNetworkText(t, textByDefinition(want), got)
				again, code := impl.RenameNode(got, int64(i), x.Name)
				wantNetwork(t, "RenameNode back", again, code, n, impl.ErrNone)
			}
		}
	}
}

func TestRenameNodeRejectsNames(t *testing.T) {
	n := mixedNetwork()
	names := []string{"", "A", "aB", " ", "a ", " a", "a b", "a\n", "\n", "a-b", "a\x00", "\u00e4", "\xff", "123456789", strings.Repeat("a", 1000)}
	for i := range n.Nodes {
		for _, name := range names {
			got, code := impl.RenameNode(n, int64(i), name)
			wantNetwork(t, "RenameNode to "+strconv.Quote(name), got, code, impl.Network{}, impl.ErrState)
		}
		for j, x := range n.Nodes {
			if j != i {
				got, code := impl.RenameNode(n, int64(i), x.Name)
				wantNetwork(t, "RenameNode to "+x.Name, got, code, impl.Network{}, impl.ErrState)
			}
		}
	}
}

// TestErrorsOfRenameNodeInOrder also uses names that are wrong.
func TestErrorsOfRenameNodeInOrder(t *testing.T) {
	for _, name := range []string{"z", "n0", "", "A", "123456789"} {
		for _, k := range append([]int64{5, 6}, noIndices...) {
			got, code := impl.RenameNode(mixedNetwork(), k, name)
			wantNetwork(t, "RenameNode of no node", got, code, impl.Network{}, impl.ErrRange)
		}
		for _, n := range invalidNetworks(oddNetwork()) {
			for _, k := range append([]int64{0, 1, 3, 5, 6}, noIndices...) {
				got, code := impl.RenameNode(n, k, name)
				wantNetwork(t, "RenameNode of an invalid network", got, code, impl.Network{}, impl.ErrInvalid)
			}
		}
	}
	// The new name would make this network valid.
	got, code := impl.RenameNode(impl.Network{Nodes: []impl.Node{{Name: "a"}, {Name: "a"}}}, 1, "b")
	wantNetwork(t, "RenameNode of one of two", got, code, impl.Network{}, impl.ErrInvalid)
}

func TestWritingLeavesNetworksAlone(t *testing.T) {
	for _, base := range []impl.Network{networkOf(2, pipe(0, 1)), oddNetwork(), longestNetwork()} {
		n, memory := withMemory(base)
		before := copyOf(memory)
		for i := range int64(len(n.Pipes)) {
			impl.NetworkText(n)
			impl.PipeLine(n, i)
			impl.RenameNode(n, n.Pipes[i].From, "other")
			impl.RenameNode(n, n.Pipes[i].From, "")
			if !sameNetwork(memory, before) {
				t.Fatalf("the argument, or what lies behind it, is now %v", memory)
			}
		}
	}
}

func TestRenamedNetworksAreNewMemory(t *testing.T) {
	for node := range int64(6) {
		n, memory := withMemory(oddNetwork())
		before := copyOf(memory)
		first, _ := impl.RenameNode(n, node, "other")
		want := copyOf(first)
		second, code := impl.RenameNode(n, node, "other")
		overwrite(first)
		if !sameNetwork(memory, before) {
			t.Errorf("a change of what RenameNode returned has changed its argument to %v", memory)
		}
		wantNetwork(t, "RenameNode before", second, code, want, impl.ErrNone)
		overwrite(n)
		wantNetwork(t, "RenameNode of an argument that is changed", second, code, want, impl.ErrNone)
	}
}

func TestNetworksThatAreReadAreNewMemory(t *testing.T) {
	first, _ := impl.ReadNetwork(oddText)
	second, _ := impl.ReadNetwork(oddText)
	overwrite(first)
	third, ok := impl.ReadNetwork(oddText)
	if !ok || !sameNetwork(second, oddNetwork()) || !sameNetwork(third, oddNetwork()) {
		t.Errorf("a change of what ReadNetwork returned has changed other results to %v and %v", second, third)
	}
}
