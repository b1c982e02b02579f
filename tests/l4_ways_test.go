package tests

import (
	"fmt"
	"math"
	"slices"
	"testing"

	"loop.example/g01158/impl"
)

// point is a node and the set of colours that one has there.
type point [2]int

func plainStart(m impl.Maze) point { return point{0, m.Keys[0]} }

// plainNext returns the points one step behind another one, in ascending order of their nodes.
func plainNext(m impl.Maze, p point) []point {
	next := []point{}
	for y := range m.Size {
		if plainIsOpen(m, p[0], y, p[1]) {
			next = append(next, point{y, p[1] | m.Keys[y]})
		}
	}
	return next
}

// plainLayers returns for each number of steps how many walks from a point have just so many
// steps and end at which points, as long as some point is new.
func plainLayers(m impl.Maze, from point) []map[point]int {
	nexts := map[point][]point{}
	layers, layer := []map[point]int{}, map[point]int{from: 1}
	for hasNew := true; hasNew; {
		layers = append(layers, layer)
		hasNew = false
		further := map[point]int{}
		for p, walks := range layer {
			if nexts[p] == nil {
				hasNew = true
				nexts[p] = plainNext(m, p)
			}
			for _, next := range nexts[p] {
				further[next] += walks
			}
		}
		layer = further
	}
	return layers
}

// plainFewest returns the first layer with a point of which a test is true, and how many walks
// end at such points of it; -1 and 0 if there is none.
func plainFewest(layers []map[point]int, isWanted func(x int, colours []int) bool) (steps int, walks int) {
	for steps, layer := range layers {
		for p, n := range layer {
			if isWanted(p[0], plainColours(p[1])) {
				walks += n
			}
		}
		if walks > 0 {
			return steps, walks
		}
	}
	return -1, 0
}

func plainColours(set int) []int {
	colours := []int{}
	for c := range 6 {
		if set/power2(c)%2 == 1 {
			colours = append(colours, c)
		}
	}
	return colours
}

func anySet(node int) func(int, []int) bool { return func(x int, _ []int) bool { return x == node } }

// ways is what the functions of the chapter tell of a Maze alone. Where no key walk wins, keys is
// the list of -1, and steps, fewestKeys and detour are -1 as well.
type ways struct {
	steps  int
	way    []int
	count  int
	table  []int
	states int
	fewest int
	keys   []int
	detour int
}

// checkWays holds these functions against what they must return.
func checkWays(t *testing.T, m impl.Maze, want ways) {
	t.Helper()
	name := " of " + textOf(m)
	won := want.steps >= 0
	steps, ok := impl.FewestSteps(m)
	wantInt(t, "FewestSteps"+name, steps, ok, max(0, want.steps), won)
	way, ok := impl.FirstWay(m)
	if won {
		wantList(t, "FirstWay"+name, way, ok, want.way)
	} else {
		wantNoList(t, "FirstWay"+name, way, ok)
	}
	count, ok := impl.CountWays(m)
	wantInt(t, "CountWays"+name, count, ok, want.count, true)
	table, ok := impl.StepsTable(m)
	wantList(t, "StepsTable"+name, table, ok, want.table)
	states, ok := impl.StatesOf(m)
	wantInt(t, "StatesOf"+name, states, ok, want.states, true)
	fewest, ok := impl.FewestKeys(m)
	wantInt(t, "FewestKeys"+name, fewest, ok, max(0, want.fewest), won)
	keys, ok := impl.StepsAndKeys(m)
	wantList(t, "StepsAndKeys"+name, keys, ok, want.keys)
	detour, ok := impl.DetourOf(m)
	wantInt(t, "DetourOf"+name, detour, ok, max(0, want.detour), won)
}

func TestAllSets(t *testing.T) {
	if impl.AllSets != 64 {
		t.Error("AllSets", impl.AllSets)
	}
}

func TestWaysOfGivenMazes(t *testing.T) {
	for _, c := range []struct {
		text string
		want ways
	}{
		// A Maze of one node is won at first.
		{"1 0", ways{0, []int{0}, 1, []int{0}, 1, 0, []int{0, 0, 0, 0, 0, 0, 0}, 0}},
		{"1 5", ways{0, []int{0}, 1, []int{0}, 1, 2, []int{-1, -1, 0, 0, 0, 0, 0}, 0}},
		{"1 63", ways{0, []int{0}, 1, []int{0}, 1, 6, []int{-1, -1, -1, -1, -1, -1, 0}, 0}},
		// One step.
		{"2 0,0 0-1-0", ways{1, []int{0, 1}, 1, []int{0, 1}, 2, 0, []int{1, 1, 1, 1, 1, 1, 1}, 0}},
		{"2 1,2 0-1-1", ways{1, []int{0, 1}, 1, []int{0, 1}, 3, 2, []int{-1, -1, 1, 1, 1, 1, 1}, 0}},
		// A detour for a key, and one for several.
		{"3 0,1,0 0-1-0 0-2-1", ways{3, []int{0, 1, 0, 2}, 1, []int{0, 1, 3}, 4, 1, []int{-1, 3, 3, 3, 3, 3, 3}, 2}},
		{"4 0,1,2,0 0-1-0 0-2-0 0-3-3", ways{5, []int{0, 1, 0, 2, 0, 3}, 2, []int{0, 1, 1, 5}, 9, 2, []int{-1, -1, 5, 5, 5, 5, 5}, 4}},
		{"4 0,1,2,0 0-1-0 0-2-1 0-3-2", ways{5, []int{0, 1, 0, 2, 0, 3}, 1, []int{0, 1, 3, 5}, 7, 2, []int{-1, -1, 5, 5, 5, 5, 5}, 4}},
		// A detour for a key on the straight way is none.
		{"3 0,1,0 0-1-0 1-2-1", ways{2, []int{0, 1, 2}, 1, []int{0, 1, 2}, 4, 1, []int{-1, 2, 2, 2, 2, 2, 2}, 0}},
		// More keys may be a shorter way, or not be worth it.
		{"6 0,1,0,0,0,0 0-1-0 0-2-0 1-5-1 2-3-0 3-4-0 4-5-0", ways{2, []int{0, 1, 5}, 1, []int{0, 1, 1, 2, 3, 2}, 11, 0, []int{4, 2, 2, 2, 2, 2, 2}, 0}},
		{"4 0,3,0,0 0-1-0 0-2-0 0-3-3 2-3-0", ways{2, []int{0, 2, 3}, 1, []int{0, 1, 1, 2}, 7, 0, []int{2, 2, 2, 2, 2, 2, 2}, 1}},
		{"4 0,3,0,0 0-1-0 0-2-0 1-3-3 2-3-0", ways{2, []int{0, 1, 3}, 2, []int{0, 1, 1, 2}, 7, 0, []int{2, 2, 2, 2, 2, 2, 2}, 0}},
		// The ways that come first have the lesser nodes; doors are no parts of walks.
		{"4 0,0,0,0 0-1-0 0-2-0 1-3-0 2-3-0", ways{2, []int{0, 1, 3}, 2, []int{0, 1, 1, 2}, 4, 0, []int{2, 2, 2, 2, 2, 2, 2}, 0}},
		{"3 1,0,0 0-1-0 0-1-1 1-2-0 1-2-1 1-2-2", ways{2, []int{0, 1, 2}, 1, []int{0, 1, 2}, 3, 1, []int{-1, 2, 2, 2, 2, 2, 2}, 0}},
		{"4 0,0,0,0 0-1-0 0-2-0 0-3-0 1-3-0", ways{1, []int{0, 3}, 1, []int{0, 1, 1, 1}, 4, 0, []int{1, 1, 1, 1, 1, 1, 1}, 0}},
		{"5 0,0,0,0,0 0-1-0 0-3-0 1-2-0 2-3-0 3-4-0", ways{2, []int{0, 3, 4}, 1, []int{0, 1, 2, 1, 2}, 5, 0, []int{2, 2, 2, 2, 2, 2, 2}, 0}},
		// Two doors between the same nodes, only one of which can be opened at first.
		{"2 0,0 0-1-0 0-1-63", ways{1, []int{0, 1}, 1, []int{0, 1}, 2, 0, []int{1, 1, 1, 1, 1, 1, 1}, 0}},
		// Key walks go on behind the goal.
		{"3 0,2,1 0-2-0 1-2-1", ways{1, []int{0, 2}, 1, []int{0, 2, 1}, 6, 1, []int{-1, 1, 1, 1, 1, 1, 1}, 0}},
		// No key walk wins: the goal has no doors, or its key is behind it, or lies nowhere.
		{"2 0,0", ways{-1, nil, 0, []int{0, -1}, 1, -1, []int{-1, -1, -1, -1, -1, -1, -1}, -1}},
		{"2 63,63", ways{-1, nil, 0, []int{0, -1}, 1, -1, []int{-1, -1, -1, -1, -1, -1, -1}, -1}},
		{"2 0,1 0-1-1", ways{-1, nil, 0, []int{0, -1}, 1, -1, []int{-1, -1, -1, -1, -1, -1, -1}, -1}},
		{"3 0,1,0 0-1-0 1-2-2", ways{-1, nil, 0, []int{0, 1, -1}, 3, -1, []int{-1, -1, -1, -1, -1, -1, -1}, -1}},
		// Nodes that are reached only with a key that lies behind them, or with none.
		{"5 0,0,1,0,0 0-1-1 0-4-0 1-2-1 2-3-0", ways{1, []int{0, 4}, 1, []int{0, -1, -1, -1, 1}, 2, 0, []int{1, 1, 1, 1, 1, 1, 1}, 0}},
		{"4 0,0,1,0 0-1-1 0-2-0 0-3-0", ways{1, []int{0, 3}, 1, []int{0, 3, 1, 1}, 6, 0, []int{1, 1, 1, 1, 1, 1, 1}, 0}},
	} {
		checkWays(t, mazeOf(c.text), c.want)
	}
}

func TestWaysThroughManyDoors(t *testing.T) {
	for size := 2; size <= impl.MaxColours+1; size++ {
		// With the keys of the first k nodes one is at one of them; with all keys, at any node.
		want := ways{steps: size - 1, count: 1, states: (size-2)*(size-1)/2 + size, fewest: size - 1}
		for x := range size {
			want.way = append(want.way, x)
			want.table = append(want.table, x)
		}
		for count := range impl.MaxColours + 1 {
			want.keys = append(want.keys, -1)
			if count >= size-1 {
				want.keys[count] = size - 1
			}
		}
		checkWays(t, chain(size), want)
	}
}

// farMaze returns a Maze of MaxNodes nodes in which one goes to and fro between both ends of a
// row of five nodes, each time for the key of the next door.
func farMaze() impl.Maze {
	return mazeOf("12 0,0,0,0,0,0,2,8,1,4,16,0 0-1-0 1-2-0 1-6-1 1-7-4 1-11-16 2-3-0 3-4-0 4-5-0 5-8-0 5-9-2 5-10-8")
}

// wideMaze returns a Maze of MaxNodes nodes, MaxDoors doors and MaxColours colours with many ways:
// from node 0 through one of the nodes 1..3 to six nodes with keys, in any order, through one of
// the nodes 1..4 in between, and through one of the nodes 1..3 to the goal.
func wideMaze() impl.Maze {
	m := impl.Maze{Size: impl.MaxNodes, Keys: []int{0, 0, 0, 0, 0, 1, 2, 4, 8, 16, 32, 0}}
	for middle := 1; middle <= 4; middle++ {
		for key := 5; key <= 10; key++ {
			m.Doors = append(m.Doors, [3]int{middle, key, 0})
		}
		if middle <= 3 {
			m.Doors = append(m.Doors, [3]int{0, middle, 0}, [3]int{middle, 11, 63})
		}
	}
	m.Doors = sortedDoors(m.Doors)
	return m
}

func TestWaysUpToTheLimits(t *testing.T) {
	steps, ok := impl.FewestSteps(farMaze())
	wantInt(t, "FewestSteps of a far goal", steps, ok, 36, true)
	detour, ok := impl.DetourOf(farMaze())
	wantInt(t, "DetourOf a far goal", detour, ok, 34, true)
	count, ok := impl.CountWays(farMaze())
	wantInt(t, "CountWays of a far goal", count, ok, 1, true)
	way, ok := impl.FirstWay(farMaze())
	wantList(t, "FirstWay of a far goal", way, ok, []int{0, 1, 2, 3, 4, 5, 8, 5, 4, 3, 2, 1, 6, 1, 2, 3, 4, 5, 9, 5, 4, 3, 2, 1, 7, 1, 2, 3, 4, 5, 10, 5, 4, 3, 2, 1, 11})

	wide := wideMaze()
	if !plainIsMaze(wide) || len(wide.Doors) != impl.MaxDoors {
		t.Fatal("no Maze with all limits:", textOf(wide))
	}
	none := slices.Repeat([]int{-1}, 6)
	checkWays(t, wide, ways{
		14, []int{0, 1, 5, 1, 6, 1, 7, 1, 8, 1, 9, 1, 10, 1, 11}, 6 * 5 * 4 * 3 * 2 * 3 * 4 * 4 * 4 * 4 * 4 * 3,
		[]int{0, 1, 1, 1, 3, 2, 2, 2, 2, 2, 2, 14}, 64*4 + 63 + 32*6 + 1, 6, append(none, 14), 12,
	})
	checkWays(t, fullMaze(), ways{
		-1, nil, 0, []int{0, 1, 2, 3, 4, -1, -1, -1, -1, -1, -1, -1}, plainStates(fullMaze()), -1, append(none, -1), -1,
	})
}

func plainStates(m impl.Maze) int {
	seen := map[point]bool{}
	for _, layer := range plainLayers(m, plainStart(m)) {
		for p := range layer {
			seen[p] = true
		}
	}
	return len(seen)
}

// plainWays finds by numbers of walks all but the first way, for which it follows the least node
// from which the goal can still be won in time.
func plainWays(m impl.Maze) ways {
	goal := anySet(m.Size - 1)
	layers := plainLayers(m, plainStart(m))
	want := ways{states: plainStates(m), fewest: -1, detour: -1}
	want.steps, want.count = plainFewest(layers, goal)
	for x := range m.Size {
		steps, _ := plainFewest(layers, anySet(x))
		want.table = append(want.table, steps)
	}
	for count := range 7 {
		steps, _ := plainFewest(layers, func(x int, colours []int) bool { return goal(x, colours) && len(colours) <= count })
		want.keys = append(want.keys, steps)
		if steps >= 0 && want.fewest < 0 {
			want.fewest = count
		}
	}
	if want.steps >= 0 {
		straight, _ := plainFewest(plainLayers(m, point{0, 63}), goal)
		want.detour = want.steps - straight
		want.way = plainFirstWay(m, want.steps)
	}
	return want
}

func plainFirstWay(m impl.Maze, steps int) []int {
	p := plainStart(m)
	way := []int{0}
	for left := steps - 1; left >= 0; left-- {
		for _, next := range plainNext(m, p) {
			if n, _ := plainFewest(plainLayers(m, next), anySet(m.Size-1)); n == left {
				p = next
				break
			}
		}
		way = append(way, p[0])
	}
	return way
}

// wayMazes returns Mazes of all kinds, among them some with doors between near numbers only, which
// have longer ways to the goal, and more of them.
func wayMazes() []impl.Maze {
	r := newRandom()
	mazes := append(manyMazes(), farMaze(), wideMaze())
	for range 200 {
		m := randomMaze(r, 5+r.Intn(impl.MaxNodes-4), 0, 2)
		for range impl.MaxDoors {
			a := r.Intn(m.Size - 1)
			b := min(a+1+r.Intn(3), m.Size-1)
			m.Doors = append(m.Doors, [3]int{a, b, sparseSet(r, 2)})
		}
		m.Doors = sortedDoors(m.Doors)
		mazes = append(mazes, m)
	}
	return mazes
}

func TestWaysOfManyMazes(t *testing.T) {
	won, lost, detours, several := 0, 0, 0, 0
	for _, m := range wayMazes() {
		want := plainWays(m)
		checkWays(t, m, want)
		if want.steps < 0 {
			lost++
		} else {
			won++
		}
		if want.detour > 0 {
			detours++
		}
		if want.count > 1 {
			several++
		}
	}
	if won < 100 || lost < 100 || detours < 20 || several < 50 {
		t.Error("too few Mazes are won or lost, or have detours or several ways:", won, lost, detours, several)
	}
}

// All key walks of few nodes are listed here, so that nothing is assumed of states.
func TestWaysAmongAllKeyWalks(t *testing.T) {
	const longest = 7
	for _, m := range append(someMazes(150), chain(4), mazeOf("4 0,1,2,0 0-1-0 0-2-1 0-3-2")) {
		winning := [][]int{}
		table := slices.Repeat([]int{longest}, m.Size)
		keyWalks(m, longest, func(walk []int) {
			end := walk[len(walk)-1]
			table[end] = min(table[end], len(walk)-1)
			if end == m.Size-1 {
				winning = append(winning, slices.Clone(walk))
			}
		})
		got, ok := impl.StepsTable(m)
		for x, steps := range table {
			if !ok || got[x] != steps && (steps < longest || got[x] >= 0 && got[x] < longest) {
				t.Fatal("StepsTable", textOf(m), got, ok, "but", table)
			}
		}
		steps, ok := impl.FewestSteps(m)
		if len(winning) == 0 {
			if ok && steps < longest {
				t.Fatal("FewestSteps", textOf(m), steps)
			}
			continue
		}
		slices.SortFunc(winning, func(a, b []int) int {
			if len(a) != len(b) {
				return len(a) - len(b)
			}
			return slices.Compare(a, b)
		})
		first := winning[0]
		wantInt(t, "FewestSteps of "+textOf(m), steps, ok, len(first)-1, true)
		way, ok := impl.FirstWay(m)
		wantList(t, "FirstWay of "+textOf(m), way, ok, first)
		winning = slices.DeleteFunc(winning, func(walk []int) bool { return len(walk) > len(first) })
		count, ok := impl.CountWays(m)
		wantInt(t, "CountWays of "+textOf(m), count, ok, len(winning), true)
	}
}

// The guarantee of the chapter, and promise 4.
func TestFirstWayWinsWithTheFewestSteps(t *testing.T) {
	for _, m := range wayMazes() {
		way, won := impl.FirstWay(m)
		steps, ok := impl.FewestSteps(m)
		from, fromOK := impl.FewestFrom(m, 0, 0)
		table, tableOK := impl.StepsTable(m)
		count, countOK := impl.CountWays(m)
		can, canOK := impl.CanWin(m, 0)
		if ok != won || fromOK != won || !tableOK || !countOK || !canOK || can != won || (count > 0) != won {
			t.Fatal("some functions only fail for", textOf(m), won, ok, fromOK, tableOK, countOK, can, count)
		}
		goal := m.Size - 1
		if !won {
			if table[goal] != -1 {
				t.Fatal("StepsTable", textOf(m), table)
			}
			continue
		}
		is, ok := impl.IsKeyWalk(m, way)
		if _, plain := plainTaken(m, way); !ok || !is || !plain || way[len(way)-1] != goal || len(way)-1 != steps || from != steps || table[goal] != steps {
			t.Fatal("FirstWay", textOf(m), way, steps, from, table)
		}
	}
}

// plainRemain returns what RemainTable must: it lowers the numbers as long as some step is
// shorter than what was found before.
func plainRemain(m impl.Maze) [][]int {
	const never = 1000
	table := [][]int{}
	for x := range m.Size {
		table = append(table, slices.Repeat([]int{never}, 64))
		if x == m.Size-1 {
			table[x] = slices.Repeat([]int{0}, 64)
		}
	}
	for changed := true; changed; {
		changed = false
		for x := range m.Size {
			for set := range 64 {
				for _, next := range plainNext(m, point{x, set | m.Keys[x]}) {
					if steps := table[next[0]][next[1]] + 1; steps < table[x][set] {
						table[x][set] = steps
						changed = true
					}
				}
			}
		}
	}
	for _, list := range table {
		for set, steps := range list {
			if steps == never {
				list[set] = -1
			}
		}
	}
	return table
}

// checkRemain holds RemainTable and FewestFrom against what they must return.
func checkRemain(t *testing.T, m impl.Maze, want [][]int) {
	t.Helper()
	name := " of " + textOf(m)
	table, ok := impl.RemainTable(m)
	if !ok || len(table) != m.Size {
		t.Fatal("RemainTable"+name, table, ok)
	}
	for x, list := range table {
		wantList(t, fmt.Sprint("RemainTable", name, " ", x), list, ok, want[x])
		for set := range 64 {
			steps, ok := impl.FewestFrom(m, x, set)
			wantInt(t, fmt.Sprint("FewestFrom", name, " ", x, " ", set), steps, ok, max(0, want[x][set]), want[x][set] >= 0)
		}
	}
}

func TestRemainTableOfGivenMazes(t *testing.T) {
	zeros, odd := slices.Repeat([]int{0}, 64), slices.Repeat([]int{3, 1}, 32)
	checkRemain(t, mazeOf("1 0"), [][]int{zeros})
	checkRemain(t, mazeOf("1 63"), [][]int{zeros})
	checkRemain(t, mazeOf("2 0,0"), [][]int{slices.Repeat([]int{-1}, 64), zeros})
	checkRemain(t, mazeOf("2 0,0 0-1-0"), [][]int{slices.Repeat([]int{1}, 64), zeros})
	// Each number with colour 0 is odd; only with it one can go to the goal at once.
	checkRemain(t, mazeOf("3 0,1,0 0-1-0 0-2-1"), [][]int{odd, slices.Repeat([]int{2}, 64), zeros})
	// The keys of the node itself are taken, those behind a door are not.
	checkRemain(t, mazeOf("2 1,0 0-1-1"), [][]int{slices.Repeat([]int{1}, 64), zeros})
	checkRemain(t, mazeOf("2 0,1 0-1-1"), [][]int{slices.Repeat([]int{-1, 1}, 32), zeros})
	// One can win from a node with all colours only, or with two of them.
	all := append(slices.Repeat([]int{-1}, 63), 1)
	checkRemain(t, mazeOf("2 0,0 0-1-63"), [][]int{all, zeros})
	checkRemain(t, mazeOf("2 63,0 0-1-63"), [][]int{slices.Repeat([]int{1}, 64), zeros})
	checkRemain(t, mazeOf("2 48,0 0-1-63"), [][]int{slices.Repeat(append(slices.Repeat([]int{-1}, 15), 1), 4), zeros})
	// A node that no key walk enters has its numbers, too.
	checkRemain(t, mazeOf("3 0,0,0 1-2-1"), [][]int{slices.Repeat([]int{-1}, 64), slices.Repeat([]int{-1, 1}, 32), zeros})
}

func TestRemainTableOfManyMazes(t *testing.T) {
	for _, m := range append(someMazes(100), append(largeMazes(40), fullMaze(), chain(7), farMaze(), wideMaze())...) {
		want := plainRemain(m)
		checkRemain(t, m, want)
		for x := range m.Size {
			for set := range 64 {
				for c := range 6 {
					fewer, more := want[x][set], want[x][set|power2(c)]
					if fewer >= 0 && (more < 0 || more > fewer) {
						t.Fatal("RemainTable", textOf(m), x, set, fewer, "and with", c, more)
					}
				}
			}
		}
	}
}

func TestFewestWith(t *testing.T) {
	for _, c := range []struct {
		text  string
		set   int
		steps int
		ok    bool
	}{
		// A set without colours, one of those on the way, and one for which one makes a detour.
		{"4 0,1,2,0 0-1-0 0-2-0 1-3-0", 0, 2, true},
		{"4 0,1,2,0 0-1-0 0-2-0 1-3-0", 1, 2, true},
		{"4 0,1,2,0 0-1-0 0-2-0 1-3-0", 2, 4, true},
		{"4 0,1,2,0 0-1-0 0-2-0 1-3-0", 3, 4, true},
		{"4 0,1,2,0 0-1-0 0-2-0 1-3-0", 4, 0, false},
		{"4 0,1,2,0 0-1-0 0-2-0 1-3-0", 63, 0, false},
		// The key lies behind the goal, or at it.
		{"3 0,0,0 0-2-0 1-2-0", 1, 0, false},
		{"3 0,1,0 0-2-0 1-2-0", 0, 1, true},
		{"3 0,1,0 0-2-0 1-2-0", 1, 3, true},
		{"3 0,1,2 0-2-0 1-2-0", 2, 1, true},
		{"3 0,1,2 0-2-0 1-2-2", 3, 3, true},
		// A Maze of one node, and the set of all colours.
		{"1 0", 0, 0, true},
		{"1 0", 1, 0, false},
		{"1 63", 63, 0, true},
		{"1 31", 63, 0, false},
		{"2 31,32 0-1-0", 63, 1, true},
		// No key walk wins.
		{"3 0,1,0 0-1-0 1-2-2", 0, 0, false},
		{"3 0,1,0 0-1-0 1-2-2", 1, 0, false},
	} {
		steps, ok := impl.FewestWith(mazeOf(c.text), c.set)
		wantInt(t, fmt.Sprint("FewestWith of ", c.text, " ", c.set), steps, ok, c.steps, c.ok)
	}
}

func TestFewestWithOfManyMazes(t *testing.T) {
	for _, m := range wayMazes() {
		layers := plainLayers(m, plainStart(m))
		for set := range 64 {
			isWanted := func(x int, colours []int) bool { return x == m.Size-1 && containsAll(colours, plainColours(set)) }
			want, _ := plainFewest(layers, isWanted)
			steps, ok := impl.FewestWith(m, set)
			wantInt(t, fmt.Sprint("FewestWith of ", textOf(m), " ", set), steps, ok, max(0, want), want >= 0)
		}
	}
}

func TestWayBack(t *testing.T) {
	for _, c := range []struct {
		text string
		walk []int
		want int
	}{
		{"1 0", []int{0}, 0},
		{"2 0,0 0-1-0", []int{0}, 0},
		{"2 0,0 0-1-0", []int{0, 1}, 1},
		// A walk that comes back itself.
		{"2 0,0 0-1-0", []int{0, 1, 0}, 0},
		{"2 0,0 0-1-0", []int{0, 1, 0, 1, 0, 1}, 1},
		// One can go back as one came, or through a door that the walk has opened.
		{"4 0,0,0,0 0-1-0 1-2-0 2-3-0", []int{0, 1, 2, 3}, 3},
		{"4 0,0,0,1 0-1-0 0-3-1 1-2-0 2-3-0", []int{0, 1, 2, 3}, 1},
		{"4 0,1,0,0 0-1-0 0-3-1 1-2-0 2-3-0", []int{0, 1, 2, 3}, 1},
		{"4 0,0,0,0 0-1-0 0-3-1 1-2-0 2-3-0", []int{0, 1, 2, 3}, 3},
		{"4 0,0,0,0 0-1-0 0-3-0 1-2-0 2-3-0", []int{0, 1, 2}, 2},
		// A key on the way back opens a shorter one.
		{"6 0,0,0,0,0,1 0-1-0 0-5-1 1-2-0 2-3-0 3-4-0 4-5-0", []int{0, 1, 2, 3, 4}, 2},
		{"6 0,0,0,0,0,2 0-1-0 0-5-1 1-2-0 2-3-0 3-4-0 4-5-0", []int{0, 1, 2, 3, 4}, 4},
		// The walk need not win, and may go on behind the goal.
		{"4 0,0,0,0 0-1-0 1-3-0 2-3-0", []int{0, 1, 3, 2}, 3},
		{"4 0,0,0,0 0-1-0 1-2-0", []int{0, 1, 2}, 2},
	} {
		back, ok := impl.WayBack(mazeOf(c.text), c.walk)
		wantInt(t, fmt.Sprint("WayBack of ", c.text, " ", c.walk), back, ok, c.want, true)
	}
	far := farMaze()
	way, _ := impl.FirstWay(far)
	back, ok := impl.WayBack(far, way)
	wantInt(t, "WayBack of a far goal", back, ok, 2, true)
	to := slices.Repeat([]int{0, 1}, 3000)
	back, ok = impl.WayBack(far, to)
	wantInt(t, "WayBack of a long walk", back, ok, 1, true)
}

func TestWayBackOfAllLists(t *testing.T) {
	for _, text := range []string{"1 0", "1 63", "2 0,0", "2 1,0 0-1-1", "3 0,1,0 0-1-0 0-2-1", "3 0,1,2 0-1-0 0-2-3 1-2-1", "4 0,1,2,0 0-1-0 0-2-1 1-2-2 1-3-3"} {
		m := mazeOf(text)
		lists(-1, m.Size, 5, func(list []int) {
			back, ok := impl.WayBack(m, list)
			want := 0
			taken, is := plainTaken(m, list)
			if is {
				end := point{list[len(list)-1], taken[len(taken)-1]}
				want, _ = plainFewest(plainLayers(m, end), anySet(0))
			}
			wantInt(t, fmt.Sprint("WayBack of ", text, " ", list), back, ok, want, is)
		})
	}
}

func TestWayBackIsNoLongerThanTheWalk(t *testing.T) {
	for _, m := range append(someMazes(150), append(largeMazes(20), chain(7))...) {
		keyWalks(m, 4, func(walk []int) {
			back, ok := impl.WayBack(m, walk)
			if !ok || back > len(walk)-1 || (back == 0) != (walk[len(walk)-1] == 0) {
				t.Fatal("WayBack", textOf(m), walk, back, ok)
			}
		})
	}
}

func TestWayBackOfNoKeyWalk(t *testing.T) {
	m := mazeOf("4 0,1,0,0 0-1-0 0-3-1 1-2-0")
	for _, walk := range [][]int{
		nil, {}, {1}, {1, 0}, {-1}, {4}, {0, 0}, {0, 1, 1}, {0, 2}, {0, 3}, {0, 3, 0}, {0, 1, 3}, {0, 4}, {0, -1}, {0, 1, 0, 2},
		{0, 1, 64}, {0, math.MaxInt}, {0, math.MinInt}, {math.MaxInt}, {math.MinInt},
	} {
		back, ok := impl.WayBack(m, walk)
		wantInt(t, fmt.Sprint("WayBack of ", walk), back, ok, 0, false)
	}
	back, ok := impl.WayBack(m, []int{0, 1, 0, 3})
	wantInt(t, "WayBack with the key", back, ok, 1, true)
}

// A node or a set that is one too great or negative fails like one that is far away.
func TestWaysWithNoNodeAndNoSet(t *testing.T) {
	for _, m := range []impl.Maze{mazeOf("1 0"), mazeOf("2 63,63 0-1-0"), chain(7), farMaze(), wideMaze()} {
		for _, set := range append(noNumbers, 65, 127, 128) {
			steps, ok := impl.FewestWith(m, set)
			wantInt(t, fmt.Sprint("FewestWith ", set), steps, ok, 0, false)
			for x := range m.Size {
				steps, ok = impl.FewestFrom(m, x, set)
				wantInt(t, fmt.Sprint("FewestFrom ", x, " ", set), steps, ok, 0, false)
			}
		}
		for _, x := range append(noNumbers, m.Size, m.Size+1, 12, 13) {
			if x >= 0 && x < m.Size {
				continue
			}
			for _, set := range []int{0, 1, 63, 64, -1} {
				steps, ok := impl.FewestFrom(m, x, set)
				wantInt(t, fmt.Sprint("FewestFrom ", x, " ", set), steps, ok, 0, false)
			}
		}
	}
}

func TestWaysOfNoMaze(t *testing.T) {
	numbers := map[string]func(impl.Maze) (int, bool){
		"FewestSteps": impl.FewestSteps, "CountWays": impl.CountWays, "StatesOf": impl.StatesOf, "FewestKeys": impl.FewestKeys, "DetourOf": impl.DetourOf,
		"FewestFrom": func(m impl.Maze) (int, bool) { return impl.FewestFrom(m, 0, 0) },
		"FewestWith": func(m impl.Maze) (int, bool) { return impl.FewestWith(m, 0) },
		"WayBack":    func(m impl.Maze) (int, bool) { return impl.WayBack(m, []int{0}) },
	}
	listed := map[string]func(impl.Maze) ([]int, bool){
		"StepsTable": impl.StepsTable, "FirstWay": impl.FirstWay, "StepsAndKeys": impl.StepsAndKeys,
	}
	for _, odd := range oddMazes() {
		for name, function := range numbers {
			got, ok := function(odd)
			wantInt(t, name+" of no Maze", got, ok, 0, false)
		}
		for name, function := range listed {
			got, ok := function(odd)
			wantNoList(t, name+" of no Maze", got, ok)
		}
		if table, ok := impl.RemainTable(odd); ok || len(table) != 0 {
			t.Error("RemainTable of no Maze", table, ok)
		}
	}
}

func TestWaysAreTotal(t *testing.T) {
	numbers := []int{0, 1, 2, 5, 11, 12, 63, 64, -1, math.MaxInt, math.MinInt}
	walks := [][]int{nil, {}, {0}, {0, 1}, {0, 1, 0}, {0, 3}, {0, 1, 2, 3, 4, 5, 6}, {1}, {12}, {0, 12}, {0, -1}, {math.MinInt}, {0, math.MaxInt}}
	mazes := append(oddMazes(), mazeOf("1 0"), mazeOf("2 0,0"), mazeOf("2 1,0 0-1-1"), mazeOf("4 9,9,9,9 0-1-63 0-3-8 2-3-5"), chain(7), farMaze(), wideMaze(), fullMaze())
	checkTotal(t, []named{
		{"FewestSteps", impl.FewestSteps}, {"StepsTable", impl.StepsTable}, {"FirstWay", impl.FirstWay}, {"CountWays", impl.CountWays},
		{"StatesOf", impl.StatesOf}, {"RemainTable", impl.RemainTable}, {"FewestFrom", impl.FewestFrom}, {"FewestWith", impl.FewestWith},
		{"FewestKeys", impl.FewestKeys}, {"StepsAndKeys", impl.StepsAndKeys}, {"DetourOf", impl.DetourOf}, {"WayBack", impl.WayBack},
	}, []any{mazes, numbers, walks})
}
