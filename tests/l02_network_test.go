package tests

import (
	"math"
	"math/rand"
	"slices"
	"strconv"
	"strings"
	"testing"

	"loop.example/g00852/impl"
)

// noIndices are indices of nothing; those beyond the last one depend on the list.
var noIndices = []int64{-1, -2, -impl.MaxPipes, math.MinInt64, math.MaxInt64, 1 << 32, -1 << 32, impl.MaxPipes + 1}

func pipe(from, to int64) impl.Pipe {
	return impl.Pipe{From: from, To: to, K: 1, Volume: 2, Limit: 50}
}

// networkOf returns nodes with the names n0, n1 and so on, and pipes with different resistances.
func networkOf(nodes int, pipes ...impl.Pipe) impl.Network {
	n := impl.Network{}
	for i := range nodes {
		n.Nodes = append(n.Nodes, impl.Node{Name: "n" + strconv.Itoa(i), Low: int64(i), High: 10000})
	}
	for i, p := range pipes {
		p.K = int64(1 + i)
		n.Pipes = append(n.Pipes, p)
	}
	return n
}

// mixedNetwork has four pipes between n0 and n1, in both directions, a longer cycle, and n4 alone.
func mixedNetwork() impl.Network {
	return networkOf(5, pipe(0, 1), pipe(3, 1), pipe(1, 0), pipe(2, 1), pipe(0, 1), pipe(1, 0), pipe(3, 2))
}

// largestNetwork has as many nodes and pipes as are allowed.
func largestNetwork() impl.Network {
	pipes := []impl.Pipe{}
	for i := range int64(impl.MaxPipes) {
		pipes = append(pipes, pipe(i%impl.MaxNodes, (i+1)%impl.MaxNodes))
	}
	return networkOf(impl.MaxNodes, pipes...)
}

func someNetwork(r *rand.Rand) impl.Network {
	nodes := 1 + r.Intn(impl.MaxNodes)
	if r.Intn(2) == 0 {
		nodes = 1 + r.Intn(4)
	}
	pipes := []impl.Pipe{}
	for nodes > 1 && len(pipes) < impl.MaxPipes && r.Intn(20) > 0 {
		from := r.Intn(nodes)
		to := (from + 1 + r.Intn(nodes-1)) % nodes
		pipes = append(pipes, impl.Pipe{
			From: int64(from), To: int64(to), Volume: r.Int63n(impl.MaxVolume + 1), Limit: 1 + r.Int63n(impl.MaxFlow),
		})
	}
	return networkOf(nodes, pipes...)
}

func someNetworks() []impl.Network {
	list := []impl.Network{networkOf(1), networkOf(2), networkOf(2, pipe(1, 0)), mixedNetwork(), largestNetwork()}
	r := rand.New(rand.NewSource(7))
	for range 300 {
		list = append(list, someNetwork(r))
	}
	return list
}

func copyOf(n impl.Network) impl.Network {
	return impl.Network{Nodes: slices.Clone(n.Nodes), Pipes: slices.Clone(n.Pipes)}
}

func sameNetwork(a, b impl.Network) bool {
	return slices.Equal(a.Nodes, b.Nodes) && slices.Equal(a.Pipes, b.Pipes)
}

// changed returns a network after a change.
func changed(n impl.Network, change func(n *impl.Network)) impl.Network {
	n = copyOf(n)
	change(&n)
	return n
}

func wantList(t *testing.T, call string, got []int64, code int64, want []int64, wantCode int64) {
	t.Helper()
	if !slices.Equal(got, want) || code != wantCode {
		t.Errorf("%s returned %v and the code %d, not %v and %d", call, got, code, want, wantCode)
	}
}

func wantNetwork(t *testing.T, call string, got impl.Network, code int64, want impl.Network, wantCode int64) {
	t.Helper()
	if !sameNetwork(got, want) || code != wantCode {
		t.Errorf("%s returned %v and the code %d, not %v and %d", call, got, code, want, wantCode)
	}
}

func TestLimitsOfNetworks(t *testing.T) {
	limits := []int64{
		impl.MaxNodes, impl.MaxPipes, impl.MaxName, impl.MaxLevel, impl.MaxResistance, impl.MaxFlow, impl.MaxVolume,
	}
	if !slices.Equal(limits, []int64{24, 40, 8, 100000000, 1000, 30000, 1000000}) {
		t.Errorf("the limits are %v", limits)
	}
}

// wantNode checks a node alone, and as a part of a network.
func wantNode(t *testing.T, x impl.Node, want bool) {
	t.Helper()
	if got := impl.IsNode(x); got != want {
		t.Errorf("IsNode(%+v) returned %v", x, got)
	}
	other := impl.Node{Name: "other"}
	for _, nodes := range [][]impl.Node{{x}, {x, other}, {other, x}} {
		if got := impl.IsNetwork(impl.Network{Nodes: nodes}); got != want {
			t.Errorf("IsNetwork with the nodes %+v returned %v", nodes, got)
		}
	}
}

func TestLengthsOfNames(t *testing.T) {
	for length := range 40 {
		wantNode(t, impl.Node{Name: strings.Repeat("a", length)}, length >= 1 && length <= 8)
		wantNode(t, impl.Node{Name: strings.Repeat("7", length)}, length >= 1 && length <= 8)
	}
	// These have no more than eight runes, or no more than eight bytes that are allowed.
	for _, name := range []string{"\u00e4\u00f6\u00fc\u00df\u00e4", "abcdefg\u00e4", "abcdefgh\n", "abcdefgh ", strings.Repeat("a", 1000)} {
		wantNode(t, impl.Node{Name: name}, false)
	}
}

func TestBytesOfNames(t *testing.T) {
	allowed := "abcdefghijklmnopqrstuvwxyz0123456789"
	for b := range 256 {
		c := string([]byte{byte(b)})
		want := strings.Contains(allowed, c)
		for _, name := range []string{c, c + "a", "a" + c, "a" + c + "9", "0000000" + c, c + "zzzzzzz", "abc" + c + "0189"} {
			wantNode(t, impl.Node{Name: name}, want)
		}
	}
	// The last three are runes that Unicode counts as a small letter or a digit.
	for _, name := range []string{"A", "aB", "Z9", "a b", "a-b", "a_b", "a.b", "-1", "a\x00", "\u00e9", "\u0661", "\uff41"} {
		wantNode(t, impl.Node{Name: name}, false)
	}
}

func TestBoundsOfNodes(t *testing.T) {
	cases := []struct {
		low, high int64
		want      bool
	}{
		{0, 0, true}, {0, 1, true}, {5, 5, true}, {5, 6, true}, {0, impl.MaxLevel, true},
		{impl.MaxLevel, impl.MaxLevel, true}, {impl.MaxLevel - 1, impl.MaxLevel, true},
		{-1, 0, false}, {-1, -1, false}, {-1, 5, false}, {0, -1, false}, {1, 0, false}, {6, 5, false},
		{0, impl.MaxLevel + 1, false}, {impl.MaxLevel, impl.MaxLevel + 1, false},
		{impl.MaxLevel + 1, impl.MaxLevel + 1, false}, {impl.MaxLevel + 1, impl.MaxLevel, false},
		{math.MinInt64, 0, false}, {math.MinInt64, math.MinInt64, false}, {0, math.MinInt64, false},
		{0, math.MaxInt64, false}, {math.MaxInt64, math.MaxInt64, false}, {math.MinInt64, math.MaxInt64, false},
	}
	for _, c := range cases {
		wantNode(t, impl.Node{Name: "a", Low: c.low, High: c.high}, c.want)
	}
	wantNode(t, impl.Node{}, false)
}

func TestNetworksThatAreValid(t *testing.T) {
	for _, n := range someNetworks() {
		if !impl.IsNetwork(n) {
			t.Errorf("IsNetwork(%v) returned false", n)
		}
	}
	names := impl.Network{Nodes: []impl.Node{{Name: "a"}, {Name: "aa"}, {Name: "b"}, {Name: "0"}, {Name: "00"}, {Name: "a0"}, {Name: "0a"}}}
	if !impl.IsNetwork(names) {
		t.Error("names that are alike are different")
	}
}

func TestSizesOfNetworks(t *testing.T) {
	if impl.IsNetwork(impl.Network{}) || impl.IsNetwork(impl.Network{Nodes: []impl.Node{}, Pipes: []impl.Pipe{}}) {
		t.Error("a network without nodes")
	}
	if impl.IsNetwork(impl.Network{Pipes: []impl.Pipe{pipe(0, 1)}}) {
		t.Error("pipes without nodes")
	}
	for _, nodes := range []int{1, 2, impl.MaxNodes - 1, impl.MaxNodes, impl.MaxNodes + 1, impl.MaxNodes + 2, 1000, 100000} {
		if got, want := impl.IsNetwork(networkOf(nodes)), nodes <= 24; got != want {
			t.Errorf("IsNetwork with %d nodes returned %v", nodes, got)
		}
	}
	for _, pipes := range []int{0, 1, impl.MaxPipes - 1, impl.MaxPipes, impl.MaxPipes + 1, impl.MaxPipes + 2, 1000, 100000} {
		n := networkOf(2)
		n.Pipes = slices.Repeat([]impl.Pipe{pipe(0, 1)}, pipes)
		if got, want := impl.IsNetwork(n), pipes <= 40; got != want {
			t.Errorf("IsNetwork with %d pipes returned %v", pipes, got)
		}
	}
}

func TestTwoNodesWithOneName(t *testing.T) {
	base := largestNetwork()
	for i := range base.Nodes {
		for j := range base.Nodes {
			n := changed(base, func(n *impl.Network) { n.Nodes[i].Name = n.Nodes[j].Name })
			if got := impl.IsNetwork(n); got != (i == j) {
				t.Errorf("IsNetwork returned %v where the nodes %d and %d have one name", got, i, j)
			}
		}
	}
	if impl.IsNetwork(impl.Network{Nodes: []impl.Node{{Name: "a", Low: 0, High: 1}, {Name: "a", Low: 2, High: 3}}}) {
		t.Error("nodes with other bounds still need other names")
	}
}

// wantPipe checks a pipe as each one of a network with three nodes.
func wantPipe(t *testing.T, p impl.Pipe, want bool) {
	t.Helper()
	n := networkOf(3, pipe(0, 1), pipe(1, 2), pipe(2, 0))
	for i := range n.Pipes {
		x := changed(n, func(n *impl.Network) { n.Pipes[i] = p })
		if got := impl.IsNetwork(x); got != want {
			t.Errorf("IsNetwork with the pipe %d %+v returned %v", i, p, got)
		}
	}
}

func TestEndsOfPipes(t *testing.T) {
	for from := int64(-2); from <= 5; from++ {
		for to := int64(-2); to <= 5; to++ {
			wantPipe(t, pipe(from, to), from >= 0 && from < 3 && to >= 0 && to < 3 && from != to)
		}
	}
	for _, k := range noIndices {
		wantPipe(t, pipe(0, k), false)
		wantPipe(t, pipe(k, 0), false)
		wantPipe(t, pipe(k, k), false)
	}
	if impl.IsNetwork(networkOf(1, pipe(0, 0))) || impl.IsNetwork(networkOf(1, pipe(0, 1))) || impl.IsNetwork(networkOf(1, pipe(1, 0))) {
		t.Error("a single node has no pipes")
	}
	last := int64(impl.MaxNodes - 1)
	if !impl.IsNetwork(networkOf(impl.MaxNodes, pipe(0, last), pipe(last, 0))) {
		t.Error("a pipe joins the first and the last node")
	}
}

func TestNumbersOfPipes(t *testing.T) {
	fields := []struct {
		name      string
		low, high int64
		set       func(p *impl.Pipe, x int64)
	}{
		{"K", 1, 1000, func(p *impl.Pipe, x int64) { p.K = x }},
		{"Volume", 0, 1000000, func(p *impl.Pipe, x int64) { p.Volume = x }},
		{"Limit", 1, 30000, func(p *impl.Pipe, x int64) { p.Limit = x }},
	}
	for _, f := range fields {
		for _, x := range []int64{
			f.low, f.low + 1, f.high - 1, f.high, f.low - 1, f.high + 1, -f.high, -1, -2, math.MinInt64, math.MaxInt64, 1 << 32,
		} {
			p := pipe(0, 2)
			f.set(&p, x)
			wantPipe(t, p, x >= f.low && x <= f.high)
		}
	}
	wantPipe(t, impl.Pipe{From: 0, To: 1, K: 1, Volume: 0, Limit: 1}, true)
	wantPipe(t, impl.Pipe{From: 0, To: 1, K: 1000, Volume: 1000000, Limit: 30000}, true)
	wantPipe(t, impl.Pipe{}, false)
}

func TestNodeNamed(t *testing.T) {
	for _, n := range someNetworks() {
		for i, x := range n.Nodes {
			got, code := impl.NodeNamed(n, x.Name)
			wantNumber(t, "NodeNamed", got, code, int64(i), impl.ErrNone)
		}
		for _, name := range []string{"", "n", "n24", "n00", "N0", "n0 ", " n0", "n0\x00", "0", "\u00e4", strings.Repeat("n0", 1000)} {
			got, code := impl.NodeNamed(n, name)
			wantNumber(t, "NodeNamed "+name, got, code, 0, impl.ErrNotFound)
		}
	}
}

func TestPipesOfNodes(t *testing.T) {
	n := mixedNetwork()
	at := [][]int64{{0, 2, 4, 5}, {0, 1, 2, 3, 4, 5}, {3, 6}, {1, 6}, {}}
	neighbours := [][]int64{{1}, {0, 2, 3}, {1, 3}, {1, 2}, {}}
	for node := range int64(5) {
		got, code := impl.PipesAt(n, node)
		wantList(t, "PipesAt", got, code, at[node], impl.ErrNone)
		got, code = impl.NeighboursOf(n, node)
		wantList(t, "NeighboursOf", got, code, neighbours[node], impl.ErrNone)
	}
	between := []struct {
		a, b int64
		want []int64
	}{
		{0, 1, []int64{0, 2, 4, 5}}, {1, 3, []int64{1}}, {1, 2, []int64{3}}, {2, 3, []int64{6}},
		{0, 2, nil}, {0, 3, nil}, {0, 4, nil}, {4, 1, nil}, {0, 0, nil}, {1, 1, nil}, {3, 3, nil}, {4, 4, nil},
	}
	for _, c := range between {
		got, code := impl.PipesBetween(n, c.a, c.b)
		wantList(t, "PipesBetween", got, code, c.want, impl.ErrNone)
		got, code = impl.PipesBetween(n, c.b, c.a)
		wantList(t, "PipesBetween", got, code, c.want, impl.ErrNone)
	}
}

// TestListsByDefinition compares with lists made pair by pair from the definitions.
func TestListsByDefinition(t *testing.T) {
	for _, n := range someNetworks() {
		for a := range int64(len(n.Nodes)) {
			var at, neighbours []int64
			for b := range int64(len(n.Nodes)) {
				var between []int64
				for i, p := range n.Pipes {
					if p.From == a && p.To == b || p.From == b && p.To == a {
						between = append(between, int64(i))
					}
				}
				got, code := impl.PipesBetween(n, a, b)
				wantList(t, "PipesBetween", got, code, between, impl.ErrNone)
				at = append(at, between...)
				if len(between) > 0 {
					neighbours = append(neighbours, b)
				}
			}
			slices.Sort(at)
			got, code := impl.PipesAt(n, a)
			wantList(t, "PipesAt", got, code, at, impl.ErrNone)
			got, code = impl.NeighboursOf(n, a)
			wantList(t, "NeighboursOf", got, code, neighbours, impl.ErrNone)
		}
	}
}

func TestOtherEnd(t *testing.T) {
	for _, n := range someNetworks() {
		for i, p := range n.Pipes {
			for node := range int64(len(n.Nodes)) {
				want, wantCode := int64(0), int64(impl.ErrState)
				if node == p.From {
					want, wantCode = p.To, impl.ErrNone
				} else if node == p.To {
					want, wantCode = p.From, impl.ErrNone
				}
				got, code := impl.OtherEnd(n, int64(i), node)
				wantNumber(t, "OtherEnd", got, code, want, wantCode)
			}
		}
	}
}

// TestEndsOfPipesAreNeighbours checks the second half of promise 4.
func TestEndsOfPipesAreNeighbours(t *testing.T) {
	for _, n := range someNetworks() {
		for i, p := range n.Pipes {
			ofFrom, _ := impl.NeighboursOf(n, p.From)
			ofTo, _ := impl.NeighboursOf(n, p.To)
			between, _ := impl.PipesBetween(n, p.From, p.To)
			if !slices.Contains(ofFrom, p.To) || !slices.Contains(ofTo, p.From) || !slices.Contains(between, int64(i)) {
				t.Fatalf("the ends of the pipe %d of %v are no neighbours", i, n)
			}
		}
		for node := range int64(len(n.Nodes)) {
			neighbours, _ := impl.NeighboursOf(n, node)
			for _, other := range neighbours {
				back, _ := impl.NeighboursOf(n, other)
				if !slices.Contains(back, node) || other == node {
					t.Fatalf("%d is a neighbour of %d in %v, which is not one of it", other, node, n)
				}
			}
		}
	}
}

// TestTurningTwiceRestores checks the first half of promise 4.
func TestTurningTwiceRestores(t *testing.T) {
	for _, n := range someNetworks() {
		for i := range int64(len(n.Pipes)) {
			want := changed(n, func(n *impl.Network) { n.Pipes[i].From, n.Pipes[i].To = n.Pipes[i].To, n.Pipes[i].From })
			turned, code := impl.TurnPipe(n, i)
			wantNetwork(t, "TurnPipe", turned, code, want, impl.ErrNone)
			if !impl.IsNetwork(turned) || sameNetwork(turned, n) {
				t.Fatalf("the pipe %d of %v has not been turned", i, n)
			}
			again, code := impl.TurnPipe(turned, i)
			wantNetwork(t, "TurnPipe again", again, code, n, impl.ErrNone)
		}
	}
}

func TestWithoutPipe(t *testing.T) {
	n := mixedNetwork()
	for i := range n.Pipes {
		want := impl.Network{Nodes: n.Nodes}
		for j, p := range n.Pipes {
			if j != i {
				want.Pipes = append(want.Pipes, p)
			}
		}
		got, code := impl.WithoutPipe(n, int64(i))
		wantNetwork(t, "WithoutPipe", got, code, want, impl.ErrNone)
	}
	got, code := impl.WithoutPipe(networkOf(2, pipe(1, 0)), 0)
	wantNetwork(t, "WithoutPipe of the only one", got, code, networkOf(2), impl.ErrNone)
	for _, n := range someNetworks() {
		for pipes := len(n.Pipes); pipes > 0; pipes-- {
			rest, code := impl.WithoutPipe(n, int64(pipes/2))
			if code != impl.ErrNone || len(rest.Pipes) != pipes-1 || !impl.IsNetwork(rest) {
				t.Fatalf("WithoutPipe(%v, %d) returned %v and the code %d", n, pipes/2, rest, code)
			}
			n = rest
		}
	}
}

// wantCodes checks that all functions with a network return a code and otherwise zero values.
// NodeNamed has no index, and is called only where the network itself is wrong.
func wantCodes(t *testing.T, n impl.Network, node, pipe, want int64) {
	t.Helper()
	list, code := impl.PipesAt(n, node)
	wantList(t, "PipesAt", list, code, nil, want)
	list, code = impl.NeighboursOf(n, node)
	wantList(t, "NeighboursOf", list, code, nil, want)
	for other := int64(-1); other <= int64(len(n.Nodes)); other++ {
		list, code = impl.PipesBetween(n, node, other)
		wantList(t, "PipesBetween", list, code, nil, want)
		list, code = impl.PipesBetween(n, other, node)
		wantList(t, "PipesBetween", list, code, nil, want)
		number, code := impl.OtherEnd(n, pipe, other)
		wantNumber(t, "OtherEnd", number, code, 0, want)
	}
	for other := int64(-1); other <= int64(len(n.Pipes)); other++ {
		number, code := impl.OtherEnd(n, other, node)
		wantNumber(t, "OtherEnd", number, code, 0, want)
	}
	network, code := impl.TurnPipe(n, pipe)
	wantNetwork(t, "TurnPipe", network, code, impl.Network{}, want)
	network, code = impl.WithoutPipe(n, pipe)
	wantNetwork(t, "WithoutPipe", network, code, impl.Network{}, want)
	if want == impl.ErrInvalid {
		for _, name := range []string{"n0", "n1", "none", "", "\x00"} {
			number, code := impl.NodeNamed(n, name)
			wantNumber(t, "NodeNamed", number, code, 0, want)
		}
	}
}

func TestIndicesOutOfRange(t *testing.T) {
	for _, n := range []impl.Network{networkOf(1), networkOf(2, pipe(0, 1)), mixedNetwork(), largestNetwork()} {
		nodes, pipes := int64(len(n.Nodes)), int64(len(n.Pipes))
		for _, k := range noIndices {
			wantCodes(t, n, k, k, impl.ErrRange)
		}
		wantCodes(t, n, nodes, pipes, impl.ErrRange)
		wantCodes(t, n, nodes+1, pipes+1, impl.ErrRange)
	}
}

// TestOtherEndChecksTheRangeFirst uses indices of the one kind that are none of the other.
func TestOtherEndChecksTheRangeFirst(t *testing.T) {
	cases := []struct{ pipe, node, want int64 }{
		{0, 0, impl.ErrNone}, {0, 4, impl.ErrState}, {6, 4, impl.ErrState}, {6, 0, impl.ErrState},
		{0, 5, impl.ErrRange}, {6, 6, impl.ErrRange}, {7, 4, impl.ErrRange}, {7, 5, impl.ErrRange},
		{-1, 4, impl.ErrRange}, {0, -1, impl.ErrRange}, {-1, -1, impl.ErrRange},
	}
	for _, c := range cases {
		got, code := impl.OtherEnd(mixedNetwork(), c.pipe, c.node)
		want := int64(0)
		if c.want == impl.ErrNone {
			want = 1
		}
		wantNumber(t, "OtherEnd", got, code, want, c.want)
	}
	// Of a network with more pipes than nodes, and of one with more nodes than pipes.
	_, code := impl.TurnPipe(mixedNetwork(), 6)
	_, two := impl.PipesAt(mixedNetwork(), 6)
	_, three := impl.TurnPipe(networkOf(3, pipe(0, 1)), 2)
	_, four := impl.PipesAt(networkOf(3, pipe(0, 1)), 2)
	if code != impl.ErrNone || two != impl.ErrRange || three != impl.ErrRange || four != impl.ErrNone {
		t.Errorf("the codes are %d, %d, %d and %d", code, two, three, four)
	}
}

// TestInvalidNetworksAreRejectedFirst uses indices of which some are wrong as well, or no ends.
func TestInvalidNetworksAreRejectedFirst(t *testing.T) {
	n := mixedNetwork()
	wrong := []impl.Network{
		{}, {Pipes: n.Pipes}, networkOf(impl.MaxNodes+1, n.Pipes...),
		networkOf(5, slices.Repeat(n.Pipes, 6)...), networkOf(5, pipe(0, 0)), networkOf(5, pipe(0, 5)),
		changed(n, func(n *impl.Network) { n.Nodes[4].Name = "n0" }),
		changed(n, func(n *impl.Network) { n.Nodes[4].Name = "" }),
		changed(n, func(n *impl.Network) { n.Nodes[4].Name = "N4" }),
		changed(n, func(n *impl.Network) { n.Nodes[0].Low = -1 }),
		changed(n, func(n *impl.Network) { n.Nodes[0].High = impl.MaxLevel + 1 }),
		changed(n, func(n *impl.Network) { n.Pipes[6].From = -1 }),
		changed(n, func(n *impl.Network) { n.Pipes[6].K = 0 }),
		changed(n, func(n *impl.Network) { n.Pipes[6].Volume = -1 }),
		changed(n, func(n *impl.Network) { n.Pipes[6].Limit = 0 }),
	}
	for _, x := range wrong {
		if impl.IsNetwork(x) {
			t.Errorf("IsNetwork(%v) returned true", x)
		}
		for _, k := range []int64{0, 1, 4, 5, 7, -1, math.MinInt64, math.MaxInt64} {
			wantCodes(t, x, k, k, impl.ErrInvalid)
		}
	}
}

// withMemory returns a network whose lists are the beginnings of longer ones, and these.
func withMemory(n impl.Network) (impl.Network, impl.Network) {
	behind := impl.Network{
		Nodes: append(slices.Clone(n.Nodes), impl.Node{Name: "behind", Low: 1, High: 2}, impl.Node{Name: "last", Low: 3, High: 4}),
		Pipes: append(slices.Clone(n.Pipes), impl.Pipe{From: 9, To: 8, K: 7, Volume: 6, Limit: 5}, impl.Pipe{From: 5, To: 6, K: 7, Volume: 8, Limit: 9}),
	}
	return impl.Network{Nodes: behind.Nodes[:len(n.Nodes)], Pipes: behind.Pipes[:len(n.Pipes)]}, behind
}

func TestNetworksAreLeftAlone(t *testing.T) {
	for _, base := range []impl.Network{networkOf(2, pipe(0, 1)), mixedNetwork(), largestNetwork()} {
		n, memory := withMemory(base)
		before := copyOf(memory)
		for i := range int64(len(n.Pipes)) {
			impl.IsNetwork(n)
			impl.NodeNamed(n, "n1")
			impl.PipesAt(n, n.Pipes[i].From)
			impl.NeighboursOf(n, n.Pipes[i].From)
			impl.PipesBetween(n, n.Pipes[i].From, n.Pipes[i].To)
			impl.OtherEnd(n, i, n.Pipes[i].To)
			impl.TurnPipe(n, i)
			impl.WithoutPipe(n, i)
			if !sameNetwork(memory, before) {
				t.Fatalf("the pipe %d: the argument, or what lies behind it, is now %v", i, memory)
			}
		}
	}
}

// overwrite changes all that a network holds, and what can be appended behind it.
func overwrite(n impl.Network) {
	for i := range n.Nodes {
		n.Nodes[i] = impl.Node{Name: "changed", Low: -1, High: -2}
	}
	for i := range n.Pipes {
		n.Pipes[i] = impl.Pipe{From: -1, To: -2, K: -3, Volume: -4, Limit: -5}
	}
	_ = append(n.Nodes, impl.Node{Name: "appended", Low: -1, High: -2})
	_ = append(n.Pipes, impl.Pipe{From: -6, To: -7, K: -8, Volume: -9, Limit: -10})
}

func TestNetworksOfResultsAreNewMemory(t *testing.T) {
	edits := map[string]func(impl.Network, int64) (impl.Network, int64){"TurnPipe": impl.TurnPipe, "WithoutPipe": impl.WithoutPipe}
	for name, edit := range edits {
		for i := range int64(7) {
			n, memory := withMemory(mixedNetwork())
			before := copyOf(memory)
			first, _ := edit(n, i)
			want := copyOf(first)
			second, code := edit(n, i)
			overwrite(first)
			if !sameNetwork(memory, before) {
				t.Errorf("a change of what %s returned has changed its argument to %v", name, memory)
			}
			wantNetwork(t, name+" before", second, code, want, impl.ErrNone)
			third, code := edit(n, i)
			wantNetwork(t, name+" behind", third, code, want, impl.ErrNone)
			overwrite(n)
			wantNetwork(t, name+" of an argument that is changed", third, code, want, impl.ErrNone)
		}
	}
}

func TestListsOfResultsAreNewMemory(t *testing.T) {
	n := mixedNetwork()
	before := copyOf(n)
	lists := map[string]func() ([]int64, int64){
		"PipesAt":      func() ([]int64, int64) { return impl.PipesAt(n, 1) },
		"NeighboursOf": func() ([]int64, int64) { return impl.NeighboursOf(n, 1) },
		"PipesBetween": func() ([]int64, int64) { return impl.PipesBetween(n, 0, 1) },
	}
	for name, list := range lists {
		first, _ := list()
		want := slices.Clone(first)
		second, _ := list()
		for i := range first {
			first[i] = -7
		}
		third, code := list()
		if !slices.Equal(second, want) || !slices.Equal(third, want) || code != impl.ErrNone || !sameNetwork(n, before) {
			t.Errorf("a change of what %s returned has changed other results to %v and %v", name, second, third)
		}
	}
}
