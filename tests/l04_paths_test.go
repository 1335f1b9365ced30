package tests

import (
	"cmp"
	"math"
	"math/rand"
	"slices"
	"testing"

	"loop.example/g00852/impl"
)

// someTree has the given number of nodes. Its pipes are shuffled, and lead in either direction.
func someTree(r *rand.Rand, nodes int) impl.Network {
	numbers := r.Perm(nodes)
	pipes := []impl.Pipe{}
	for i := 1; i < nodes; i++ {
		p := pipe(int64(numbers[i]), int64(numbers[r.Intn(i)]))
		if r.Intn(2) == 0 {
			p.From, p.To = p.To, p.From
		}
		pipes = append(pipes, p)
	}
	r.Shuffle(len(pipes), func(i, j int) { pipes[i], pipes[j] = pipes[j], pipes[i] })
	return networkOf(nodes, pipes...)
}

// someTrees has trees of all sizes, among them the longest path and the largest star.
func someTrees() []impl.Network {
	r := rand.New(rand.NewSource(4))
	list := []impl.Network{}
	for i := range 6 * impl.MaxNodes {
		list = append(list, someTree(r, 1+i%impl.MaxNodes))
	}
	path, star := []impl.Pipe{}, []impl.Pipe{}
	for i := range int64(impl.MaxNodes - 1) {
		path = append(path, pipe(i+1, i))
		star = append(star, pipe(i, impl.MaxNodes-1))
	}
	return append(list, networkOf(impl.MaxNodes, path...), networkOf(impl.MaxNodes, star...))
}

// networksToSearch are networks of all kinds, many of them with more pipes than a tree.
func networksToSearch() []impl.Network {
	list := append(someNetworks(), someTrees()...)
	r := rand.New(rand.NewSource(5))
	for _, n := range someTrees() {
		for len(n.Nodes) > 1 && len(n.Pipes) < impl.MaxPipes && r.Intn(4) > 0 {
			from := r.Intn(len(n.Nodes))
			to := (from + 1 + r.Intn(len(n.Nodes)-1)) % len(n.Nodes)
			n.Pipes = slices.Insert(n.Pipes, r.Intn(len(n.Pipes)+1), pipe(int64(from), int64(to)))
		}
		list = append(list, n)
	}
	return list
}

// tableOfDistances shortens the ways between all nodes by each node in between.
func tableOfDistances(n impl.Network) [][]int64 {
	const far = 1000
	table := make([][]int64, len(n.Nodes))
	for a := range table {
		table[a] = slices.Repeat([]int64{far}, len(n.Nodes))
		table[a][a] = 0
	}
	for _, p := range n.Pipes {
		table[p.From][p.To], table[p.To][p.From] = 1, 1
	}
	for middle := range table {
		for a := range table {
			for b := range table {
				table[a][b] = min(table[a][b], table[a][middle]+table[middle][b])
			}
		}
	}
	for a := range table {
		for b := range table {
			if table[a][b] == far {
				table[a][b] = -1
			}
		}
	}
	return table
}

// componentsByDefinition returns, for each node, the first one to which a path leads.
func componentsByDefinition(n impl.Network) []int64 {
	components := []int64{}
	for _, distances := range tableOfDistances(n) {
		components = append(components, int64(slices.IndexFunc(distances, func(d int64) bool { return d >= 0 })))
	}
	return components
}

func numberOfComponents(n impl.Network) int {
	return len(slices.Compact(slices.Sorted(slices.Values(componentsByDefinition(n)))))
}

// entriesByDefinition sorts the nodes of each distance by the place of the node from which they
// are visited, and then by their entry.
func entriesByDefinition(n impl.Network, from int64) []int64 {
	type arrival struct{ place, entry, node int64 }
	distances := tableOfDistances(n)[from]
	entries := slices.Repeat([]int64{-1}, len(n.Nodes))
	level := []int64{from}
	for distance := int64(1); len(level) > 0; distance++ {
		arrivals := []arrival{}
		for i, p := range n.Pipes {
			for place, node := range level {
				if p.From == node && distances[p.To] == distance {
					arrivals = append(arrivals, arrival{int64(place), int64(i), p.To})
				}
				if p.To == node && distances[p.From] == distance {
					arrivals = append(arrivals, arrival{int64(place), int64(i), p.From})
				}
			}
		}
		slices.SortFunc(arrivals, func(a, b arrival) int {
			return cmp.Or(cmp.Compare(a.place, b.place), cmp.Compare(a.entry, b.entry))
		})
		level = nil
		for _, a := range arrivals {
			if entries[a.node] < 0 {
				entries[a.node] = a.entry
				level = append(level, a.node)
			}
		}
	}
	return entries
}

// forestByDefinition returns the entries of all nodes in the searches from their least nodes.
func forestByDefinition(n impl.Network) []int64 {
	forest := []int64{}
	for node, least := range componentsByDefinition(n) {
		if int64(node) != least {
			forest = append(forest, entriesByDefinition(n, least)[node])
		}
	}
	slices.Sort(forest)
	return forest
}

// nodesAlong returns the nodes that a path from a node passes, or false if a pipe does not go on.
func nodesAlong(n impl.Network, from int64, path []int64) ([]int64, bool) {
	nodes := []int64{from}
	for _, i := range path {
		if i < 0 || i >= int64(len(n.Pipes)) {
			return nil, false
		}
		switch p := n.Pipes[i]; from {
		case p.From:
			from = p.To
		case p.To:
			from = p.From
		default:
			return nil, false
		}
		nodes = append(nodes, from)
	}
	return nodes, true
}

func withoutPipe(n impl.Network, pipe int) impl.Network {
	return changed(n, func(n *impl.Network) { n.Pipes = slices.Delete(n.Pipes, pipe, pipe+1) })
}

func TestSearchesOfSomeNetworks(t *testing.T) {
	cases := []struct {
		name      string
		n         impl.Network
		from      int64
		distances []int64
		entries   []int64
	}{
		{"one node", networkOf(1), 0, []int64{0}, []int64{-1}},
		{"two nodes without a pipe", networkOf(2), 1, []int64{-1, 0}, []int64{-1, -1}},
		{"a pipe against its direction", networkOf(2, pipe(0, 1)), 1, []int64{1, 0}, []int64{0, -1}},
		{"parallel pipes", networkOf(2, pipe(1, 0), pipe(0, 1), pipe(1, 0)), 0, []int64{0, 1}, []int64{-1, 0}},
		{"mixed, from n0", mixedNetwork(), 0, []int64{0, 1, 2, 2, -1}, []int64{-1, 0, 3, 1, -1}},
		{"mixed, from n3", mixedNetwork(), 3, []int64{2, 1, 1, 0, -1}, []int64{0, 1, 6, -1, -1}},
		{"mixed, from the node alone", mixedNetwork(), 4, []int64{-1, -1, -1, -1, 0}, []int64{-1, -1, -1, -1, -1}},
		// The smaller pipe of n0 leads to n2, so that n3 is visited from there, by the greater pipe.
		{
			"the order of pipes before that of nodes", networkOf(4, pipe(1, 3), pipe(0, 2), pipe(0, 1), pipe(2, 3)), 0,
			[]int64{0, 1, 1, 2}, []int64{-1, 2, 1, 3},
		},
		// Pipe 0 leads to n3 as well, but from n2, which is visited later.
		{
			"the order of visits before that of pipes", networkOf(4, pipe(2, 3), pipe(1, 3), pipe(0, 1), pipe(0, 2)), 0,
			[]int64{0, 1, 1, 2}, []int64{-1, 2, 3, 1},
		},
		// The way by pipe 0 and pipe 1 is longer than pipe 2.
		{"the shorter way", networkOf(3, pipe(0, 1), pipe(1, 2), pipe(2, 0)), 0, []int64{0, 1, 1}, []int64{-1, 0, 2}},
		{
			"two components", networkOf(6, pipe(4, 2), pipe(5, 1), pipe(0, 4), pipe(1, 3)), 2,
			[]int64{2, -1, 0, -1, 1, -1}, []int64{2, -1, -1, -1, 0, -1},
		},
	}
	for _, c := range cases {
		got, code := impl.DistancesFrom(c.n, c.from)
		wantList(t, "DistancesFrom of "+c.name, got, code, c.distances, impl.ErrNone)
		got, code = impl.EntriesFrom(c.n, c.from)
		wantList(t, "EntriesFrom of "+c.name, got, code, c.entries, impl.ErrNone)
	}
}

func TestSearchesByDefinition(t *testing.T) {
	for _, n := range networksToSearch() {
		distances := tableOfDistances(n)
		for from := range int64(len(n.Nodes)) {
			got, code := impl.DistancesFrom(n, from)
			wantList(t, "DistancesFrom", got, code, distances[from], impl.ErrNone)
			got, code = impl.EntriesFrom(n, from)
			wantList(t, "EntriesFrom", got, code, entriesByDefinition(n, from), impl.ErrNone)
		}
	}
}

// TestSearchesOfTheGreatestSizes goes through all nodes and pipes that a network may have.
func TestSearchesOfTheGreatestSizes(t *testing.T) {
	ring, last := largestNetwork(), int64(impl.MaxNodes-1)
	wantDistances, wantEntries, path := []int64{}, []int64{}, []int64{}
	for node := range int64(impl.MaxNodes) {
		wantDistances = append(wantDistances, node)
		wantEntries = append(wantEntries, node-1)
		path = append(path, node)
	}
	chain := networkOf(impl.MaxNodes, ring.Pipes[:last]...)
	got, code := impl.DistancesFrom(chain, 0)
	wantList(t, "DistancesFrom of a chain", got, code, wantDistances, impl.ErrNone)
	got, code = impl.EntriesFrom(chain, 0)
	wantList(t, "EntriesFrom of a chain", got, code, wantEntries, impl.ErrNone)
	got, code = impl.ShortestPath(chain, 0, last)
	wantList(t, "ShortestPath of a chain", got, code, path[:last], impl.ErrNone)
	got, code = impl.ShortestPath(ring, 0, last)
	wantList(t, "ShortestPath of a ring", got, code, []int64{last}, impl.ErrNone)
	got, code = impl.ShortestPath(ring, 0, 12)
	wantList(t, "ShortestPath of a ring", got, code, path[:12], impl.ErrNone)

	parallel := networkOf(2, slices.Repeat([]impl.Pipe{pipe(1, 0)}, impl.MaxPipes)...)
	got, code = impl.EntriesFrom(parallel, 1)
	wantList(t, "EntriesFrom of parallel pipes", got, code, []int64{0, -1}, impl.ErrNone)
	got, code = impl.ShortestPath(parallel, 0, 1)
	wantList(t, "ShortestPath of parallel pipes", got, code, []int64{0}, impl.ErrNone)
	got, code = impl.SpanningForest(parallel)
	wantList(t, "SpanningForest of parallel pipes", got, code, []int64{0}, impl.ErrNone)
	got, code = impl.BridgesOf(parallel)
	wantList(t, "BridgesOf of parallel pipes", got, code, nil, impl.ErrNone)
	got, code = impl.ComponentsOf(networkOf(impl.MaxNodes))
	wantList(t, "ComponentsOf of single nodes", got, code, wantDistances, impl.ErrNone)
}

func TestShortestPath(t *testing.T) {
	// A square has two shortest paths between opposite corners; the search from a decides.
	square := networkOf(4, pipe(1, 3), pipe(0, 2), pipe(0, 1), pipe(2, 3))
	cases := []struct {
		n    impl.Network
		a, b int64
		want []int64
		code int64
	}{
		{networkOf(1), 0, 0, nil, impl.ErrNone}, {networkOf(2), 1, 1, nil, impl.ErrNone},
		{networkOf(2), 0, 1, nil, impl.ErrNotFound}, {networkOf(2, pipe(0, 1)), 1, 0, []int64{0}, impl.ErrNone},
		{mixedNetwork(), 0, 2, []int64{0, 3}, impl.ErrNone}, {mixedNetwork(), 2, 0, []int64{3, 0}, impl.ErrNone},
		{mixedNetwork(), 3, 0, []int64{1, 0}, impl.ErrNone}, {mixedNetwork(), 3, 2, []int64{6}, impl.ErrNone},
		{mixedNetwork(), 0, 4, nil, impl.ErrNotFound}, {mixedNetwork(), 4, 0, nil, impl.ErrNotFound},
		{mixedNetwork(), 4, 4, nil, impl.ErrNone},
		{square, 0, 3, []int64{1, 3}, impl.ErrNone}, {square, 3, 0, []int64{0, 2}, impl.ErrNone},
		{square, 1, 2, []int64{0, 3}, impl.ErrNone}, {square, 2, 1, []int64{1, 2}, impl.ErrNone},
	}
	for _, c := range cases {
		got, code := impl.ShortestPath(c.n, c.a, c.b)
		wantList(t, "ShortestPath", got, code, c.want, c.code)
	}
}

// TestShortestPathsByDefinition follows each path forwards, where the document goes back.
func TestShortestPathsByDefinition(t *testing.T) {
	for _, n := range networksToSearch() {
		distances := tableOfDistances(n)
		for a := range int64(len(n.Nodes)) {
			entries := entriesByDefinition(n, a)
			for b := range int64(len(n.Nodes)) {
				got, code := impl.ShortestPath(n, a, b)
				if distances[a][b] < 0 {
					wantList(t, "ShortestPath", got, code, nil, impl.ErrNotFound)
					continue
				}
				nodes, isPath := nodesAlong(n, a, got)
				if code != impl.ErrNone || !isPath || nodes[len(nodes)-1] != b || int64(len(got)) != distances[a][b] {
					t.Fatalf("ShortestPath(%v, %d, %d) returned %v and the code %d", n, a, b, got, code)
				}
				for i, node := range nodes[1:] {
					if got[i] != entries[node] {
						t.Fatalf("ShortestPath(%v, %d, %d) returned %v, which does not keep to the entries %v", n, a, b, got, entries)
					}
				}
			}
		}
	}
}

func TestForestsAndBridges(t *testing.T) {
	cases := []struct {
		name                        string
		n                           impl.Network
		components, forest, bridges []int64
		isConnected, isTree         bool
	}{
		{"one node", networkOf(1), []int64{0}, nil, nil, true, true},
		{"two nodes without a pipe", networkOf(2), []int64{0, 1}, nil, nil, false, false},
		{"two nodes and a pipe", networkOf(2, pipe(1, 0)), []int64{0, 0}, []int64{0}, []int64{0}, true, true},
		{"parallel pipes", networkOf(2, pipe(1, 0), pipe(0, 1)), []int64{0, 0}, []int64{0}, nil, true, false},
		{
			"as many pipes as a tree, but in a ring", networkOf(4, pipe(0, 1), pipe(1, 2), pipe(2, 0)),
			[]int64{0, 0, 0, 3}, []int64{0, 2}, nil, false, false,
		},
		{
			"as many pipes as a tree, but parallel", networkOf(3, pipe(2, 1), pipe(1, 2)),
			[]int64{0, 1, 1}, []int64{0}, nil, false, false,
		},
		{"mixed", mixedNetwork(), []int64{0, 0, 0, 0, 4}, []int64{0, 1, 3}, nil, false, false},
		{
			"two trees", networkOf(6, pipe(4, 2), pipe(5, 1), pipe(0, 4), pipe(1, 3)),
			[]int64{0, 1, 0, 1, 0, 1}, []int64{0, 1, 2, 3}, []int64{0, 1, 2, 3}, false, false,
		},
		{
			"a bridge between two rings",
			networkOf(6, pipe(0, 1), pipe(3, 4), pipe(2, 3), pipe(1, 2), pipe(4, 5), pipe(2, 0), pipe(5, 3)),
			[]int64{0, 0, 0, 0, 0, 0}, []int64{0, 1, 2, 5, 6}, []int64{2}, true, false,
		},
		{
			"entries that are found in another order", networkOf(4, pipe(3, 2), pipe(2, 1), pipe(1, 0)),
			[]int64{0, 0, 0, 0}, []int64{0, 1, 2}, []int64{0, 1, 2}, true, true,
		},
		{
			"components that are interleaved", networkOf(5, pipe(4, 1), pipe(3, 0), pipe(0, 3), pipe(1, 4)),
			[]int64{0, 1, 2, 0, 1}, []int64{0, 1}, nil, false, false,
		},
	}
	for _, c := range cases {
		got, code := impl.ComponentsOf(c.n)
		wantList(t, "ComponentsOf of "+c.name, got, code, c.components, impl.ErrNone)
		got, code = impl.SpanningForest(c.n)
		wantList(t, "SpanningForest of "+c.name, got, code, c.forest, impl.ErrNone)
		got, code = impl.BridgesOf(c.n)
		wantList(t, "BridgesOf of "+c.name, got, code, c.bridges, impl.ErrNone)
		if got := impl.IsConnected(c.n); got != c.isConnected {
			t.Errorf("IsConnected of %s returned %v", c.name, got)
		}
		if got := impl.IsTree(c.n); got != c.isTree {
			t.Errorf("IsTree of %s returned %v", c.name, got)
		}
	}
}

func TestForestsAndBridgesByDefinition(t *testing.T) {
	for _, n := range networksToSearch() {
		components, count := componentsByDefinition(n), numberOfComponents(n)
		got, code := impl.ComponentsOf(n)
		wantList(t, "ComponentsOf", got, code, components, impl.ErrNone)

		got, code = impl.SpanningForest(n)
		wantList(t, "SpanningForest", got, code, forestByDefinition(n), impl.ErrNone)

		var bridges []int64
		for i := range n.Pipes {
			if numberOfComponents(withoutPipe(n, i)) > count {
				bridges = append(bridges, int64(i))
			}
		}
		got, code = impl.BridgesOf(n)
		wantList(t, "BridgesOf", got, code, bridges, impl.ErrNone)

		isConnected := count == 1
		if impl.IsConnected(n) != isConnected {
			t.Errorf("IsConnected(%v) returned %v", n, !isConnected)
		}
		if isTree := isConnected && len(n.Pipes) == len(n.Nodes)-1; impl.IsTree(n) != isTree {
			t.Errorf("IsTree(%v) returned %v", n, !isTree)
		}
	}
}

// TestForestsSpan checks the first half of promise 5, and that the forest has no cycle and joins
// what the network joins.
func TestForestsSpan(t *testing.T) {
	for _, n := range networksToSearch() {
		components, _ := impl.ComponentsOf(n)
		forest, code := impl.SpanningForest(n)
		count := len(slices.Compact(slices.Sorted(slices.Values(components))))
		if code != impl.ErrNone || len(forest) != len(n.Nodes)-count {
			t.Fatalf("SpanningForest(%v) returned %v for %d components", n, forest, count)
		}
		alone := impl.Network{Nodes: n.Nodes}
		for _, i := range forest {
			alone.Pipes = append(alone.Pipes, n.Pipes[i])
		}
		got, code := impl.ComponentsOf(alone)
		wantList(t, "ComponentsOf of a forest", got, code, components, impl.ErrNone)
		if bridges, _ := impl.BridgesOf(alone); len(bridges) != len(forest) {
			t.Fatalf("the forest %v of %v has only the bridges %v", forest, n, bridges)
		}
		if impl.IsTree(alone) != impl.IsConnected(n) {
			t.Fatalf("the forest %v of %v is a tree: %v", forest, n, impl.IsTree(alone))
		}
	}
}

// TestPipesOfTreesAreBridges checks the second half of promise 5.
func TestPipesOfTreesAreBridges(t *testing.T) {
	for _, n := range someTrees() {
		all := []int64{}
		for i := range n.Pipes {
			all = append(all, int64(i))
		}
		got, code := impl.BridgesOf(n)
		wantList(t, "BridgesOf", got, code, all, impl.ErrNone)
		got, code = impl.SpanningForest(n)
		wantList(t, "SpanningForest", got, code, all, impl.ErrNone)
		if !impl.IsTree(n) || !impl.IsConnected(n) {
			t.Fatalf("%v is a tree", n)
		}
		for i := range n.Pipes {
			rest := withoutPipe(n, i)
			if impl.IsTree(rest) || impl.IsConnected(rest) {
				t.Fatalf("%v is no tree", rest)
			}
			double := changed(n, func(n *impl.Network) { n.Pipes = append(n.Pipes, n.Pipes[i]) })
			got, code := impl.BridgesOf(double)
			wantList(t, "BridgesOf with a parallel pipe", got, code, slices.Delete(slices.Clone(all), i, i+1), impl.ErrNone)
			if impl.IsTree(double) || !impl.IsConnected(double) {
				t.Fatalf("%v is connected, but no tree", double)
			}
		}
	}
}

// listsOfPaths are all lists that chapter 4 makes of a network and two of its nodes.
func listsOfPaths(n impl.Network, a, b int64) map[string]func() ([]int64, int64) {
	return map[string]func() ([]int64, int64){
		"DistancesFrom":  func() ([]int64, int64) { return impl.DistancesFrom(n, a) },
		"EntriesFrom":    func() ([]int64, int64) { return impl.EntriesFrom(n, a) },
		"ShortestPath":   func() ([]int64, int64) { return impl.ShortestPath(n, a, b) },
		"ComponentsOf":   func() ([]int64, int64) { return impl.ComponentsOf(n) },
		"SpanningForest": func() ([]int64, int64) { return impl.SpanningForest(n) },
		"BridgesOf":      func() ([]int64, int64) { return impl.BridgesOf(n) },
	}
}

// TestDirectionsDoNotMatter turns each pipe, and gives it other numbers.
func TestDirectionsDoNotMatter(t *testing.T) {
	for _, n := range networksToSearch() {
		turned := copyOf(n)
		for i, p := range n.Pipes {
			turned.Pipes[i] = impl.Pipe{From: p.To, To: p.From, K: 1 + int64(i*i)%1000, Volume: p.Limit, Limit: 1 + p.Volume%30000}
		}
		last := int64(len(n.Nodes) - 1)
		wanted := listsOfPaths(n, last, 0)
		for name, list := range listsOfPaths(turned, last, 0) {
			want, wantCode := wanted[name]()
			got, code := list()
			wantList(t, name+" of turned pipes", got, code, want, wantCode)
		}
		if impl.IsTree(turned) != impl.IsTree(n) || impl.IsConnected(turned) != impl.IsConnected(n) {
			t.Fatalf("%v is a tree or connected, depending on its directions", n)
		}
	}
}

func TestNodesOfSearchesOutOfRange(t *testing.T) {
	for _, n := range []impl.Network{networkOf(1), networkOf(2, pipe(0, 1)), mixedNetwork(), largestNetwork()} {
		nodes := int64(len(n.Nodes))
		for _, node := range append(slices.Clone(noIndices), nodes, nodes+1) {
			got, code := impl.DistancesFrom(n, node)
			wantList(t, "DistancesFrom", got, code, nil, impl.ErrRange)
			got, code = impl.EntriesFrom(n, node)
			wantList(t, "EntriesFrom", got, code, nil, impl.ErrRange)
			// The last node of the mixed network cannot be reached, which comes after the range.
			for _, other := range []int64{0, nodes - 1, nodes, -1, node} {
				got, code = impl.ShortestPath(n, node, other)
				wantList(t, "ShortestPath", got, code, nil, impl.ErrRange)
				got, code = impl.ShortestPath(n, other, node)
				wantList(t, "ShortestPath", got, code, nil, impl.ErrRange)
			}
		}
	}
}

// TestInvalidNetworksAreNotSearched uses indices of which some are wrong as well.
func TestInvalidNetworksAreNotSearched(t *testing.T) {
	tree := networkOf(4, pipe(0, 1), pipe(2, 1), pipe(3, 0))
	apart := networkOf(4, pipe(1, 2), pipe(2, 1))
	large := networkOf(impl.MaxNodes + 1)
	for i := range int64(impl.MaxNodes) {
		large.Pipes = append(large.Pipes, pipe(i, i+1))
	}
	wrong := append(invalidNetworks(tree), invalidNetworks(apart)...)
	for _, n := range append(wrong, invalidNetworks(largestNetwork())...) {
		wantNotSearched(t, n)
	}
	wantNotSearched(t, large)
	if !impl.IsTree(tree) {
		t.Error("a tree is none")
	}
}

func wantNotSearched(t *testing.T, n impl.Network) {
	t.Helper()
	for _, a := range []int64{0, 3, int64(len(n.Nodes)), -1, math.MinInt64, math.MaxInt64} {
		for _, b := range []int64{0, 3, int64(len(n.Nodes)), math.MinInt64} {
			for name, list := range listsOfPaths(n, a, b) {
				got, code := list()
				wantList(t, name, got, code, nil, impl.ErrInvalid)
			}
		}
	}
	if impl.IsConnected(n) || impl.IsTree(n) {
		t.Errorf("%v is connected or a tree, although it is not valid", n)
	}
}

func TestSearchesLeaveNetworksAlone(t *testing.T) {
	for _, base := range []impl.Network{networkOf(2, pipe(0, 1)), mixedNetwork(), largestNetwork()} {
		n, memory := withMemory(base)
		before := copyOf(memory)
		for a := range int64(len(n.Nodes)) {
			for name, list := range listsOfPaths(n, a, 0) {
				list()
				if !sameNetwork(memory, before) {
					t.Fatalf("%s has changed its argument, or what lies behind it, to %v", name, memory)
				}
			}
		}
		impl.IsConnected(n)
		impl.IsTree(n)
		if !sameNetwork(memory, before) {
			t.Fatalf("a question has changed its argument, or what lies behind it, to %v", memory)
		}
	}
}

func TestListsOfPathsAreNewMemory(t *testing.T) {
	n := networkOf(5, pipe(0, 1), pipe(1, 2), pipe(1, 2), pipe(2, 3), pipe(3, 4))
	before := copyOf(n)
	for name, list := range listsOfPaths(n, 0, 4) {
		first, code := list()
		if len(first) == 0 || code != impl.ErrNone {
			t.Fatalf("%s returned %v and the code %d", name, first, code)
		}
		want := slices.Clone(first)
		second, _ := list()
		first = first[:cap(first)]
		for i := range first {
			first[i] = -7
		}
		third, code := list()
		if !sameNetwork(n, before) {
			t.Errorf("a change of what %s returned has changed its argument to %v", name, n)
		}
		wantList(t, name+" before", second, code, want, impl.ErrNone)
		wantList(t, name+" behind", third, code, want, impl.ErrNone)
	}
}
