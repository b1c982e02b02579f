package tests

import (
	"fmt"
	"math"
	"math/rand"
	"slices"
	"strings"
	"testing"

	"loop.example/g01158/impl"
)

func TestLimitOfFilling(t *testing.T) {
	if impl.MaxFill != 8 {
		t.Error("MaxFill", impl.MaxFill)
	}
}

// plainLaid returns the Maze with the keys of a filling; of colours whose node is -1 none is laid.
func plainLaid(m impl.Maze, set int, filling []int) impl.Maze {
	laid := impl.Maze{Size: m.Size, Doors: m.Doors, Keys: make([]int, m.Size)}
	for i, c := range plainColours(set) {
		if filling[i] >= 0 {
			laid.Keys[filling[i]] += power2(c)
		}
	}
	return laid
}

// plainDepth returns the depth of a filling, or 0 if it does not win.
func plainDepth(m impl.Maze, set int, filling []int) int {
	_, entered := plainPlay(plainLaid(m, set, filling), 0)
	return entered[m.Size-1]
}

// plainFillings returns all fillings in lexicographic order.
func plainFillings(m impl.Maze, set int) [][]int {
	fillings := [][]int{}
	count := len(plainColours(set))
	lists(0, m.Size-1, count, func(list []int) {
		if len(list) == count {
			fillings = append(fillings, slices.Clone(list))
		}
	})
	return fillings
}

// fillings is what the counting functions tell. The counts of different colours are parted by `|`.
type fillings struct {
	count          int
	first, deepest string
	depth          int
	counts         string
}

// plainCounted also returns how many of the fillings have the greatest depth.
func plainCounted(m impl.Maze, set int) (want fillings, deepest int) {
	want = fillings{first: none, deepest: none}
	counts := make([][]int, len(plainColours(set)))
	for i := range counts {
		counts[i] = make([]int, m.Size)
	}
	for _, filling := range plainFillings(m, set) {
		depth := plainDepth(m, set, filling)
		if depth == 0 {
			continue
		}
		want.count++
		if want.first == none {
			want.first = commas(filling)
		}
		if depth > want.depth {
			want.deepest, want.depth, deepest = commas(filling), depth, 0
		}
		if depth == want.depth {
			deepest++
		}
		for i, x := range filling {
			counts[i][x]++
		}
	}
	want.counts = listsText(counts, "|")
	return want, deepest
}

// askFillings returns what the counting functions tell.
func askFillings(t *testing.T, m impl.Maze, set int) fillings {
	t.Helper()
	count, ok := impl.CountFillings(m, set)
	if !ok {
		t.Error("CountFillings of", textOf(m), set, "fails")
	}
	deepest, depth, deepestOK := impl.DeepestFilling(m, set)
	told := fillings{count, listOrNone(impl.FirstFilling(m, set)), listOrNone(deepest, deepestOK), depth, ""}
	counts := []string{}
	for c := range 6 {
		list, ok := impl.NodeCounts(m, set, c)
		if ok {
			counts = append(counts, commas(list))
		}
		if ok != has(set, c) || ok != (len(list) == m.Size) || !ok && len(list) != 0 {
			t.Error("NodeCounts of", textOf(m), set, c, list, ok)
		}
	}
	told.counts = strings.Join(counts, "|")
	return told
}

func checkFillings(t *testing.T, m impl.Maze, set int, want fillings) {
	t.Helper()
	if got := askFillings(t, m, set); got != want {
		t.Errorf("fillings of %s, %d = %+v; want %+v", textOf(m), set, got, want)
	}
}

// checkNotCounted checks that the counting functions fail.
func checkNotCounted(t *testing.T, m impl.Maze, set int) {
	t.Helper()
	name := fmt.Sprintf(" of %s, %d", shorten(textOf(m)), set)
	count, ok := impl.CountFillings(m, set)
	wantInt(t, "CountFillings"+name, count, ok, 0, false)
	checkNoFilling(t, m, set)
	for c := range 6 {
		counts, ok := impl.NodeCounts(m, set, c)
		wantNoList(t, fmt.Sprint("NodeCounts", name, ", ", c), counts, ok)
	}
}

// checkNoFilling checks that there is no filling that wins.
func checkNoFilling(t *testing.T, m impl.Maze, set int) {
	t.Helper()
	name := fmt.Sprintf(" of %s, %d", shorten(textOf(m)), set)
	first, ok := impl.FirstFilling(m, set)
	wantNoList(t, "FirstFilling"+name, first, ok)
	deepest, depth, ok := impl.DeepestFilling(m, set)
	wantNoList(t, "DeepestFilling"+name, deepest, ok)
	wantInt(t, "DeepestFilling"+name, depth, ok, 0, false)
}

// plainSwap returns a filling in which two colours are swapped.
func plainSwap(set int, filling []int, a int, b int) []int {
	swapped := []int{}
	colours := plainColours(set)
	for i, c := range colours {
		switch c {
		case a:
			swapped = append(swapped, filling[slices.Index(colours, b)])
		case b:
			swapped = append(swapped, filling[slices.Index(colours, a)])
		default:
			swapped = append(swapped, filling[i])
		}
	}
	return swapped
}

// isInSet reports whether any number is a colour of a set.
func isInSet(set int, c int) bool { return c >= 0 && c < 6 && has(set, c) }

// checkFilling holds the functions of a list of any numbers against what they must return for a
// valid Maze and set, and returns the depth, which is 0 if the list is no filling that wins.
func checkFilling(t *testing.T, m impl.Maze, set int, list []int) int {
	t.Helper()
	is := len(list) == len(plainColours(set))
	for _, x := range list {
		is = is && x >= 0 && x < m.Size
	}
	if got, ok := impl.IsFilling(m, set, list); got != is || !ok {
		t.Error("IsFilling of", textOf(m), set, list, got, ok)
	}
	if !is {
		checkIsNoFilling(t, m, set, list)
		return 0
	}
	laid, ok := impl.LayKeys(m, set, list)
	wantMaze(t, fmt.Sprint("LayKeys of ", textOf(m), ", ", set, ", ", list), laid, ok, textOf(plainLaid(m, set, list)))
	depth := plainDepth(m, set, list)
	if wins, ok := impl.FillingWins(m, set, list); wins != (depth > 0) || !ok {
		t.Error("FillingWins of", textOf(m), set, list, wins, ok)
	}
	got, ok := impl.FillingDepth(m, set, list)
	wantInt(t, fmt.Sprint("FillingDepth of ", textOf(m), ", ", set, ", ", list), got, ok, depth, depth > 0)
	checkSwaps(t, m, set, list, depth > 0)
	return depth
}

func checkSwaps(t *testing.T, m impl.Maze, set int, filling []int, wins bool) {
	t.Helper()
	good := []string{}
	for a := -1; a <= 6; a++ {
		for b := -1; b <= 6; b++ {
			name := fmt.Sprint("SwapFilling of ", textOf(m), ", ", set, ", ", filling, ", ", a, ", ", b)
			got, ok := impl.SwapFilling(m, set, filling, a, b)
			if a == b || !isInSet(set, a) || !isInSet(set, b) {
				wantNoList(t, name, got, ok)
				continue
			}
			want := plainSwap(set, filling, a, b)
			wantList(t, name, got, ok, want)
			if a < b && plainDepth(m, set, want) > 0 {
				good = append(good, fmt.Sprint([2]int{a, b}))
			}
		}
	}
	swaps, ok := impl.GoodSwaps(m, set, filling)
	if !wins {
		good = nil
	}
	if ok != wins || fmt.Sprint(swaps) != fmt.Sprint(good) {
		t.Error("GoodSwaps of", textOf(m), set, filling, swaps, ok, "; want", good)
	}
}

// checkIsNoFilling checks that the functions of a filling fail.
func checkIsNoFilling(t *testing.T, m impl.Maze, set int, list []int) {
	t.Helper()
	name := fmt.Sprintf(" of %s, %d, %s", shorten(textOf(m)), set, shorten(fmt.Sprint(list)))
	laid, ok := impl.LayKeys(m, set, list)
	wantMaze(t, "LayKeys"+name, laid, ok, noMaze)
	if wins, ok := impl.FillingWins(m, set, list); wins || ok {
		t.Error("FillingWins"+name, wins, ok)
	}
	depth, ok := impl.FillingDepth(m, set, list)
	wantInt(t, "FillingDepth"+name, depth, ok, 0, false)
	for a := range 6 {
		swapped, ok := impl.SwapFilling(m, set, list, a, 5-a)
		wantNoList(t, fmt.Sprint("SwapFilling", name, ", ", a), swapped, ok)
	}
	if swaps, ok := impl.GoodSwaps(m, set, list); len(swaps) != 0 || ok {
		t.Error("GoodSwaps"+name, swaps, ok)
	}
}

// plainFree returns all nodes that are entered in any round.
func plainFree(m impl.Maze, first int) []int {
	_, entered := plainPlay(m, first)
	free := []int{}
	for x, round := range entered {
		if round > 0 {
			free = append(free, x)
		}
	}
	return free
}

// plainFill fills by assumption, or forward, and also returns the number of the free nodes for each
// colour of the order.
func plainFill(m impl.Maze, set int, order []int, choices []int, assumes bool) (filling []int, free []int) {
	colours := plainColours(set)
	for range colours {
		filling = append(filling, -1)
	}
	for i, c := range order {
		hand := 0
		if assumes {
			for _, later := range order[i+1:] {
				hand += power2(later)
			}
		}
		nodes := plainFree(plainLaid(m, set, filling), hand)
		filling[slices.Index(colours, c)] = nodes[choices[i]%len(nodes)]
		free = append(free, len(nodes))
	}
	return filling, free
}

// checkFill holds both ways to fill against what they must return.
func checkFill(t *testing.T, m impl.Maze, set int, order []int, choices []int, assumed []int, forward []int) {
	t.Helper()
	name := fmt.Sprintf(" of %s, %d, %v, %v", textOf(m), set, order, choices)
	got, ok := impl.AssumedFilling(m, set, order, choices)
	wantList(t, "AssumedFilling"+name, got, ok, assumed)
	got, ok = impl.ForwardFilling(m, set, order, choices)
	wantList(t, "ForwardFilling"+name, got, ok, forward)
}

func checkNoFill(t *testing.T, m impl.Maze, set int, order []int, choices []int) {
	t.Helper()
	name := fmt.Sprintf(" of %s, %d, %v, %v", shorten(textOf(m)), set, order, choices)
	got, ok := impl.AssumedFilling(m, set, order, choices)
	wantNoList(t, "AssumedFilling"+name, got, ok)
	got, ok = impl.ForwardFilling(m, set, order, choices)
	wantNoList(t, "ForwardFilling"+name, got, ok)
}

// filledMaze returns a Maze, most of whose doors need some of the first colours. Some of the keys in
// it open the way to the goal, too, if they are not gone.
func filledMaze(r *rand.Rand, size int, colours int) impl.Maze {
	m := randomMaze(r, size, r.Intn(size+1), colours)
	if r.Intn(3) == 0 {
		m.Doors = nil
	}
	for x := 1; x < size; x++ {
		switch r.Intn(6) {
		case 0:
		case 1, 2:
			m.Doors = append(m.Doors, [3]int{r.Intn(x), x, sparseSet(r, colours)})
		default:
			m.Doors = append(m.Doors, [3]int{x - 1, x, power2(r.Intn(colours))})
		}
	}
	m.Doors = sortedDoors(m.Doors)
	return m
}

// filledCase is a Maze with a set of colours, most of which its doors need.
type filledCase struct {
	m   impl.Maze
	set int
}

func filledCases(r *rand.Rand, count int, mostNodes int, mostColours int) []filledCase {
	cases := []filledCase{}
	for range count {
		colours := 1 + r.Intn(mostColours)
		set := power2(colours) - 1
		if r.Intn(3) == 0 {
			set &= r.Intn(64)
		}
		cases = append(cases, filledCase{filledMaze(r, 1+r.Intn(mostNodes), colours), set})
	}
	return cases
}

func TestFillingsOfGivenMazes(t *testing.T) {
	for _, c := range []struct {
		text string
		set  int
		want fillings
	}{
		// One node, whose goal is where one begins.
		{"1 0", 0, fillings{1, "", "", 1, ""}},
		{"1 63", 0, fillings{1, "", "", 1, ""}},
		{"1 0", 1, fillings{1, "0", "0", 1, "1"}},
		{"1 63", 40, fillings{1, "0,0", "0,0", 1, "1|1"}},
		{"1 0", 15, fillings{1, "0,0,0,0", "0,0,0,0", 1, "1|1|1|1"}},
		// The empty filling, with and without a door that needs a key.
		{"2 0,0", 0, fillings{0, none, none, 0, ""}},
		{"2 0,0 0-1-0", 0, fillings{1, "", "", 1, ""}},
		{"2 0,0 0-1-1", 0, fillings{0, none, none, 0, ""}},
		{"2 63,0 0-1-1", 0, fillings{0, none, none, 0, ""}},
		// Keys that lay in the Maze before.
		{"2 63,0 0-1-1", 2, fillings{0, none, none, 0, "0,0"}},
		{"2 63,0 0-1-1", 1, fillings{1, "0", "0", 2, "1,0"}},
		{"3 0,1,0 0-1-0 1-2-1", 2, fillings{0, none, none, 0, "0,0,0"}},
		// Won without any key.
		{"2 0,0 0-1-0", 1, fillings{2, "0", "0", 1, "1,1"}},
		{"2 0,0 0-1-0", 33, fillings{4, "0,0", "0,0", 1, "2,2|2,2"}},
		{"2 0,0 0-1-0 0-1-63", 2, fillings{2, "0", "0", 1, "1,1"}},
		// Not won with all colours of the set.
		{"2 0,0", 3, fillings{0, none, none, 0, "0,0|0,0"}},
		{"2 0,0 0-1-4", 3, fillings{0, none, none, 0, "0,0|0,0"}},
		{"3 0,0,0 0-1-0 1-2-9", 1, fillings{0, none, none, 0, "0,0,0"}},
		// One of the keys must be near.
		{"2 0,0 0-1-1", 3, fillings{2, "0,0", "0,0", 2, "2,0|1,1"}},
		{"2 0,0 0-1-2", 3, fillings{2, "0,0", "0,0", 2, "1,1|2,0"}},
		{"2 0,0 0-1-3", 3, fillings{1, "0,0", "0,0", 2, "1,0|1,0"}},
		{"2 0,0 0-1-15", 15, fillings{1, "0,0,0,0", "0,0,0,0", 2, "1,0|1,0|1,0|1,0"}},
		{"2 0,0 0-1-60", 60, fillings{1, "0,0,0,0", "0,0,0,0", 2, "1,0|1,0|1,0|1,0"}},
		{"2 0,0 0-1-1 0-1-2", 3, fillings{3, "0,0", "0,0", 2, "2,1|2,1"}},
		{"3 0,0,0 0-1-0 1-2-1", 1, fillings{2, "0", "0", 2, "1,1,0"}},
		{"3 0,0,0 0-1-1 1-2-1", 1, fillings{1, "0", "0", 2, "1,0,0"}},
		// The deepest one is not the first one.
		{"3 0,0,0 0-1-1 1-2-2", 3, fillings{2, "0,0", "0,1", 3, "2,0,0|1,1,0"}},
		{"3 0,0,0 0-1-2 1-2-1", 3, fillings{2, "0,0", "1,0", 3, "1,1,0|2,0,0"}},
		// Two of the greatest depth.
		{"4 0,0,0,0 0-1-1 0-2-1 1-3-2 2-3-2", 3, fillings{3, "0,0", "0,1", 3, "3,0,0,0|1,1,1,0"}},
		{"4 0,0,0,0 0-1-1 1-2-0 2-3-2", 3, fillings{3, "0,0", "0,1", 3, "3,0,0,0|1,1,1,0"}},
	} {
		m := mazeOf(c.text)
		if want, _ := plainCounted(m, c.set); want != c.want {
			t.Error("the plain fillings of", c.text, c.set, "are", want)
		}
		checkFillings(t, m, c.set, c.want)
	}
}

func TestFillingsOfManyMazes(t *testing.T) {
	r := newRandom()
	deep, several, some, all, nothing, late := 0, 0, 0, 0, 0, 0
	for _, c := range filledCases(r, 1500, 5, 3) {
		want, deepest := plainCounted(c.m, c.set)
		checkFillings(t, c.m, c.set, want)
		switch many := len(plainFillings(c.m, c.set)); {
		case want.count == 0:
			nothing++
			checkNoFilling(t, c.m, c.set)
		case want.count == many:
			all++
		default:
			some++
		}
		if want.depth >= 3 {
			deep++
		}
		if want.depth > 1 && deepest > 1 {
			several++
		}
		if want.deepest != want.first {
			late++
		}
	}
	if deep < 100 || several < 100 || some < 300 || all < 200 || nothing < 200 || late < 100 {
		t.Error("too few kinds of fillings:", deep, several, some, all, nothing, late)
	}
}

// hardFilled has MaxFill nodes, and needs the four colours of a set one behind the other.
func hardFilled() impl.Maze {
	return mazeOf("8 63,0,0,1,2,4,8,0 0-1-0 1-2-2 1-3-0 2-4-8 2-5-0 4-6-32 6-7-16")
}

// TestFillingsUpToTheLimits has sets of exactly four colours, Mazes of exactly MaxFill nodes, and one
// more of each.
func TestFillingsUpToTheLimits(t *testing.T) {
	r := newRandom()
	won := 0
	cases := []filledCase{{hardFilled(), 58}, {hardFilled(), 42}, {hardFilled(), 15}, {row(8), 15}, {star(8), 60}}
	for range 6 {
		cases = append(cases, filledCase{filledMaze(r, 8, 4), 15}, filledCase{filledMaze(r, 7+r.Intn(2), 3), 7})
	}
	for _, c := range cases {
		want, _ := plainCounted(c.m, c.set)
		checkFillings(t, c.m, c.set, want)
		if want.count > 0 && want.depth > 1 {
			won++
		}
	}
	if won < 5 {
		t.Error("too few Mazes are won with keys:", won)
	}
	if got := askFillings(t, row(8), 15); got.count != 4096 || got.counts != strings.Repeat("|512,512,512,512,512,512,512,512", 4)[1:] {
		t.Error("fillings of a row", got)
	}
	if got := askFillings(t, hardFilled(), 58); got.depth != 5 {
		t.Error("the deepest filling", got)
	}
}

func TestFillingsBeyondTheLimits(t *testing.T) {
	nine := mazeOf("9 0,0,0,0,0,0,0,0,0 0-8-1")
	for _, c := range []filledCase{{nine, 0}, {nine, 1}, {nine, 15}, {row(9), 0}, {row(12), 1}, {fullMaze(), 3}} {
		checkNotCounted(t, c.m, c.set)
		checkBeyond(t, c)
	}
	for _, m := range []impl.Maze{mazeOf("1 0"), mazeOf("2 0,0 0-1-0"), row(8), fullMaze(), nine} {
		for _, set := range append(setsOfSize(5), 63) {
			checkNotCounted(t, m, set)
			checkBeyond(t, filledCase{m, set})
		}
	}
}

// checkBeyond checks that functions that count nothing have no limits but those of Mazes and sets.
func checkBeyond(t *testing.T, c filledCase) {
	t.Helper()
	colours := plainColours(c.set)
	for _, x := range []int{0, c.m.Size - 1} {
		checkFilling(t, c.m, c.set, slices.Repeat([]int{x}, len(colours)))
		choices := slices.Repeat([]int{x}, len(colours))
		assumed, _ := plainFill(c.m, c.set, colours, choices, true)
		forward, _ := plainFill(c.m, c.set, colours, choices, false)
		checkFill(t, c.m, c.set, colours, choices, assumed, forward)
	}
}

func TestNodeCountsOfOtherColours(t *testing.T) {
	for _, c := range []filledCase{{mazeOf("1 0"), 0}, {mazeOf("2 0,0 0-1-1"), 1}, {mazeOf("2 0,0"), 1}, {row(4), 22}, {hardFilled(), 58}} {
		for _, colour := range append(noNumbers, 6, 7, 63, 65, 1<<32+1) {
			counts, ok := impl.NodeCounts(c.m, c.set, colour)
			wantNoList(t, fmt.Sprint("NodeCounts of ", textOf(c.m), ", ", c.set, ", ", colour), counts, ok)
		}
	}
}

func TestFillingsOneByOne(t *testing.T) {
	for _, c := range []struct {
		text  string
		set   int
		list  []int
		laid  string
		depth int
		swaps string
	}{
		{"1 63", 0, nil, "1 0", 1, "[]"},
		{"1 0", 63, []int{0, 0, 0, 0, 0, 0}, "1 63", 1, "[[0 1] [0 2] [0 3] [0 4] [0 5] [1 2] [1 3] [1 4] [1 5] [2 3] [2 4] [2 5] [3 4] [3 5] [4 5]]"},
		{"2 3,60 0-1-0", 0, []int{}, "2 0,0 0-1-0", 1, "[]"},
		{"2 3,60 0-1-0", 36, []int{1, 0}, "2 32,4 0-1-0", 1, "[[2 5]]"},
		{"2 3,60 0-1-4", 36, []int{0, 1}, "2 4,32 0-1-4", 2, "[]"},
		{"2 3,60 0-1-4", 36, []int{0, 0}, "2 36,0 0-1-4", 2, "[[2 5]]"},
		{"3 0,0,0 0-1-1 1-2-2", 3, []int{0, 1}, "3 1,2,0 0-1-1 1-2-2", 3, "[]"},
		{"3 0,0,0 0-1-1 1-2-2", 3, []int{0, 0}, "3 3,0,0 0-1-1 1-2-2", 2, "[[0 1]]"},
		{"3 0,0,0 0-1-1 1-2-2", 7, []int{0, 0, 2}, "3 3,0,4 0-1-1 1-2-2", 2, "[[0 1]]"},
		{"3 0,0,0 0-1-1 1-2-2", 7, []int{0, 1, 1}, "3 1,6,0 0-1-1 1-2-2", 3, "[[1 2]]"},
		{"3 0,0,0 0-1-1 1-2-2", 7, []int{0, 1, 0}, "3 5,2,0 0-1-1 1-2-2", 3, "[[0 2] [1 2]]"},
	} {
		m := mazeOf(c.text)
		laid, ok := impl.LayKeys(m, c.set, c.list)
		wantMaze(t, fmt.Sprint("LayKeys of ", c.text, c.set, c.list), laid, ok, c.laid)
		depth, ok := impl.FillingDepth(m, c.set, c.list)
		wantInt(t, fmt.Sprint("FillingDepth of ", c.text, c.set, c.list), depth, ok, c.depth, true)
		if swaps, ok := impl.GoodSwaps(m, c.set, c.list); fmt.Sprint(swaps) != c.swaps || !ok {
			t.Error("GoodSwaps of", c.text, c.set, c.list, swaps, ok)
		}
		checkFilling(t, m, c.set, c.list)
	}
}

// TestAllListsOfFillings has all lists of numbers in and near the Mazes, of all lengths near that of
// a filling.
func TestAllListsOfFillings(t *testing.T) {
	r := newRandom()
	wins, others := 0, 0
	for _, c := range filledCases(r, 120, 3, 3) {
		lists(-1, c.m.Size, min(4, len(plainColours(c.set))+1), func(list []int) {
			if checkFilling(t, c.m, c.set, list) > 0 {
				wins++
			} else {
				others++
			}
		})
	}
	if wins < 200 || others < 2000 {
		t.Error("too few lists are fillings that win, or not:", wins, others)
	}
}

func TestFillingsOfLargeMazes(t *testing.T) {
	r := newRandom()
	wins, deep := 0, 0
	for _, c := range append(filledCases(r, 400, impl.MaxNodes, impl.MaxColours), filledCase{fullMaze(), 63}, filledCase{chain(7), 63}) {
		count := len(plainColours(c.set))
		near := []int{}
		for range count {
			near = append(near, r.Intn(r.Intn(c.m.Size)+1))
		}
		// What is laid by assumption wins, and is deep, more often.
		assumed, _ := plainFill(c.m, c.set, plainColours(c.set), someChoices(r, count, c.m.Size), true)
		for _, list := range [][]int{slices.Repeat([]int{0}, count), slices.Repeat([]int{r.Intn(c.m.Size)}, count), near, assumed} {
			depth := checkFilling(t, c.m, c.set, list)
			if depth > 0 {
				wins++
			}
			if depth >= 3 {
				deep++
			}
		}
		near = append(near, 0)
		checkFilling(t, c.m, c.set, near)
		near[r.Intn(count+1)] = noNumbers[r.Intn(len(noNumbers))]
		checkFilling(t, c.m, c.set, near)
		checkFilling(t, c.m, c.set, near[:count])
	}
	if depth := checkFilling(t, chain(7), 63, []int{0, 1, 2, 3, 4, 5}); depth != 7 {
		t.Error("FillingDepth of a chain", depth)
	}
	if wins < 300 || deep < 30 {
		t.Error("too few fillings win:", wins, deep)
	}
}

func TestSwapsOfOtherColours(t *testing.T) {
	m := mazeOf("3 0,0,0 0-1-1 1-2-2")
	for _, n := range append(noNumbers, 2, 3, 6, 63, 1<<32+1) {
		for _, colours := range [][2]int{{n, 0}, {0, n}, {1, n}, {n, 1}, {n, n}, {n, n + 1}} {
			swapped, ok := impl.SwapFilling(m, 3, []int{0, 1}, colours[0], colours[1])
			wantNoList(t, fmt.Sprint("SwapFilling of ", colours), swapped, ok)
		}
	}
	swapped, ok := impl.SwapFilling(m, 3, []int{2, 1}, 1, 0)
	wantList(t, "SwapFilling", swapped, ok, []int{1, 2})
	swapped, ok = impl.SwapFilling(m, 3, []int{2, 2}, 0, 1)
	wantList(t, "SwapFilling", swapped, ok, []int{2, 2})
}

func TestWaysToFillGivenMazes(t *testing.T) {
	for _, c := range []struct {
		text             string
		set              int
		order, choices   []int
		assumed, forward []int
	}{
		{"1 0", 0, nil, nil, nil, nil},
		{"2 63,63 0-1-1", 0, []int{}, []int{}, nil, nil},
		{"1 63", 6, []int{2, 1}, []int{7, 8}, []int{0, 0}, []int{0, 0}},
		{"2 0,0", 1, []int{0}, []int{1}, []int{0}, []int{0}},
		{"4 0,1,2,0 0-1-0 0-2-1 2-3-2", 3, []int{1, 0}, []int{5, 1}, []int{1, 2}, []int{1, 1}},
		// Keys that lay in the Maze before are gone.
		{"2 1,0 0-1-1", 2, []int{1}, []int{1}, []int{0}, []int{0}},
		{"2 1,0 0-1-1", 1, []int{0}, []int{1}, []int{0}, []int{0}},
		// All nodes are free, so the choices tell them, or their remainders.
		{"3 0,0,0 0-1-0 1-2-0", 5, []int{2, 0}, []int{1, 2}, []int{2, 1}, []int{2, 1}},
		{"3 0,0,0 0-1-0 1-2-0", 5, []int{0, 2}, []int{1, 2}, []int{1, 2}, []int{1, 2}},
		{"3 0,0,0 0-1-0 1-2-0", 5, []int{0, 2}, []int{3, 4}, []int{0, 1}, []int{0, 1}},
		{"3 0,0,0 0-1-0 1-2-0", 5, []int{0, 2}, []int{math.MaxInt, math.MaxInt - 1}, []int{1, 0}, []int{1, 0}},
		// With the hand all nodes are free, without it only the first one is.
		{"4 0,0,0,0 0-1-1 1-2-1 2-3-1", 3, []int{1, 0}, []int{3, 3}, []int{0, 3}, []int{0, 0}},
		{"4 0,0,0,0 0-1-1 1-2-1 2-3-1", 3, []int{0, 1}, []int{3, 3}, []int{0, 3}, []int{0, 3}},
		// The colours of the hand are those of the set only.
		{"3 0,0,0 0-1-1 1-2-4", 3, []int{1, 0}, []int{1, 0}, []int{0, 1}, []int{0, 0}},
		{"3 0,0,0 0-1-1 1-2-4", 3, []int{1, 0}, []int{2, 0}, []int{0, 0}, []int{0, 0}},
		// The free nodes are 0 and 2: a choice is a place among them.
		{"3 0,0,0 0-2-0 1-2-1", 1, []int{0}, []int{1}, []int{2}, []int{2}},
		// A key that was laid opens a door in a later round.
		{"3 0,0,0 0-1-1 1-2-2", 3, []int{0, 1}, []int{2, 2}, []int{0, 0}, []int{0, 0}},
		{"3 0,0,0 0-1-1 1-2-2", 3, []int{1, 0}, []int{1, 5}, []int{0, 1}, []int{0, 0}},
		{"3 0,0,0 0-1-1 1-2-2", 3, []int{0, 1}, []int{3, 1}, []int{0, 1}, []int{0, 1}},
		{"3 0,0,0 0-1-1 1-2-2", 7, []int{0, 1, 2}, []int{0, 1, 2}, []int{0, 1, 2}, []int{0, 1, 2}},
		{"3 0,0,0 0-1-1 1-2-2", 7, []int{2, 1, 0}, []int{2, 1, 0}, []int{0, 1, 2}, []int{0, 0, 0}},
	} {
		m := mazeOf(c.text)
		for _, assumes := range []bool{true, false} {
			want := c.forward
			if assumes {
				want = c.assumed
			}
			if plain, _ := plainFill(m, c.set, c.order, c.choices, assumes); !slices.Equal(plain, want) {
				t.Error("the plain filling of", c.text, c.set, c.order, c.choices, assumes, "is", plain)
			}
		}
		checkFill(t, m, c.set, c.order, c.choices, c.assumed, c.forward)
	}
}

// someChoices returns choices that are small, large, or near the number of nodes.
func someChoices(r *rand.Rand, count int, size int) []int {
	choices := []int{}
	for range count {
		choices = append(choices, []int{0, r.Intn(size), size - 1, size, size + 1, r.Intn(1000), math.MaxInt - r.Intn(20)}[r.Intn(7)])
	}
	return choices
}

// ordersOf calls visit for every order of the colours of a set.
func ordersOf(set int, visit func(order []int)) {
	colours := plainColours(set)
	permutations(len(colours), func(to []int) {
		order := []int{}
		for _, i := range to {
			order = append(order, colours[i])
		}
		visit(order)
	})
}

func TestWaysToFillManyMazes(t *testing.T) {
	r := newRandom()
	apart, partlyFree, wrapped := 0, 0, 0
	check := func(c filledCase, order []int) {
		choices := someChoices(r, len(order), c.m.Size)
		assumed, free := plainFill(c.m, c.set, order, choices, true)
		forward, _ := plainFill(c.m, c.set, order, choices, false)
		checkFill(t, c.m, c.set, order, choices, assumed, forward)
		if !slices.Equal(assumed, forward) {
			apart++
		}
		for i, many := range free {
			if many > 1 && many < c.m.Size {
				partlyFree++
			}
			if choices[i] == many {
				wrapped++
			}
		}
	}
	for _, c := range append(filledCases(r, 400, 6, 4), filledCase{hardFilled(), 58}) {
		ordersOf(c.set, func(order []int) { check(c, order) })
	}
	for _, c := range append(filledCases(r, 600, impl.MaxNodes, impl.MaxColours), filledCase{fullMaze(), 63}, filledCase{chain(7), 63}) {
		colours := plainColours(c.set)
		check(c, colours)
		slices.Reverse(colours)
		check(c, colours)
		r.Shuffle(len(colours), func(i, j int) { colours[i], colours[j] = colours[j], colours[i] })
		check(c, colours)
	}
	if apart < 500 || partlyFree < 500 || wrapped < 300 {
		t.Error("too few fillings differ, or have nodes that are not free, or choices that wrap:", apart, partlyFree, wrapped)
	}
}

func TestWaysToFillWithOtherOrdersAndChoices(t *testing.T) {
	m := mazeOf("3 0,0,0 0-1-1 1-2-2")
	two := []int{0, 0}
	// Leaves out a colour, tells one twice, or one that is not in the set.
	for _, order := range [][]int{nil, {0}, {1}, {0, 0}, {1, 1}, {0, 2}, {2, 1}, {0, 1, 2}, {0, 1, 1}, {0, 1, 0}, {-1, 0}, {0, 6}, {0, math.MaxInt}, {math.MinInt, 0}} {
		checkNoFill(t, m, 3, order, two)
		checkNoFill(t, m, 3, order, make([]int, len(order)))
	}
	for _, order := range [][]int{{0}, {0, 0}, {-1}, {6}} {
		checkNoFill(t, m, 0, order, make([]int, len(order)))
		checkNoFill(t, m, 0, order, nil)
	}
	for _, choices := range [][]int{nil, {0}, {0, 0, 0}, {-1, 0}, {0, -1}, {math.MinInt, 0}, {0, math.MinInt}, {-1 << 32, 5}, {1, 2, -3}} {
		checkNoFill(t, m, 3, []int{0, 1}, choices)
		checkNoFill(t, m, 3, []int{1, 0}, choices)
	}
	checkNoFill(t, m, 0, nil, []int{0})
	checkNoFill(t, m, 63, []int{0, 1, 2, 3, 4, 6}, make([]int, 6))
}

func TestFillingsOfNoSets(t *testing.T) {
	for _, m := range []impl.Maze{mazeOf("1 0"), mazeOf("2 0,0 0-1-0"), fullMaze()} {
		for _, set := range noNumbers {
			checkAllFail(t, m, set)
		}
	}
}

func TestFillingsOfNoMazes(t *testing.T) {
	for _, m := range oddMazes() {
		for _, set := range []int{0, 1, 3, 63} {
			checkAllFail(t, m, set)
		}
	}
}

// checkAllFail checks that all functions fail for a Maze or a set that is not valid.
func checkAllFail(t *testing.T, m impl.Maze, set int) {
	t.Helper()
	checkNotCounted(t, m, set)
	for _, list := range [][]int{nil, {}, {0}, {0, 0}, {0, 0, 0, 0, 0, 0}} {
		if is, ok := impl.IsFilling(m, set, list); is || ok {
			t.Error("IsFilling of", shorten(textOf(m)), set, list, is, ok)
		}
		checkIsNoFilling(t, m, set, list)
		for _, order := range [][]int{nil, {0}, {0, 1}, {0, 1, 2, 3, 4, 5}} {
			checkNoFill(t, m, set, order, list)
		}
	}
}

// Promise 9.
func TestAssumedFillingsWinIfAllColoursDo(t *testing.T) {
	r := newRandom()
	wins, others, needed := 0, 0, 0
	check := func(c filledCase, order []int) {
		filling, ok := impl.AssumedFilling(c.m, c.set, order, someChoices(r, len(order), c.m.Size))
		got, winsOK := impl.FillingWins(c.m, c.set, filling)
		bare := plainLaid(c.m, 0, nil)
		want := plainWinsWith(bare, c.set)
		can, canOK := impl.CanWin(bare, c.set)
		if !ok || !winsOK || !canOK || got != want || can != want {
			t.Fatal("AssumedFilling of", textOf(c.m), c.set, order, filling, got, can, "; want", want)
		}
		switch {
		case !want:
			others++
		case plainWins(bare):
			wins++
		default:
			needed++
		}
	}
	for _, c := range append(filledCases(r, 400, 6, 4), filledCase{hardFilled(), 58}, filledCase{hardFilled(), 42}) {
		ordersOf(c.set, func(order []int) { check(c, order) })
	}
	for _, c := range append(filledCases(r, 600, impl.MaxNodes, impl.MaxColours), filledCase{fullMaze(), 63}, filledCase{chain(7), 63}) {
		colours := plainColours(c.set)
		r.Shuffle(len(colours), func(i, j int) { colours[i], colours[j] = colours[j], colours[i] })
		check(c, colours)
	}
	if wins < 300 || others < 300 || needed < 300 {
		t.Error("too few Mazes are won, or not:", wins, others, needed)
	}
}

// All keys of a filling that is made forward are taken in some round.
func TestForwardFillingsAreTaken(t *testing.T) {
	r := newRandom()
	lost := 0
	for _, c := range append(filledCases(r, 1500, impl.MaxNodes, impl.MaxColours), filledCase{fullMaze(), 63}, filledCase{chain(7), 63}) {
		order := plainColours(c.set)
		r.Shuffle(len(order), func(i, j int) { order[i], order[j] = order[j], order[i] })
		choices := someChoices(r, len(order), c.m.Size)
		filling, ok := impl.ForwardFilling(c.m, c.set, order, choices)
		laid, laidOK := impl.LayKeys(c.m, c.set, filling)
		taken, _, takenOK := impl.GainAtLast(laid, 0)
		if !ok || !laidOK || !takenOK || taken != c.set {
			t.Fatal("ForwardFilling of", textOf(c.m), c.set, order, choices, filling, taken)
		}
		if !plainWins(laid) && plainWinsWith(laid, c.set) {
			t.Fatal("ForwardFilling of", textOf(c.m), c.set, order, choices, filling, "is lost")
		}
		// A filling at random may have keys that are never taken.
		random := []int{}
		for range order {
			random = append(random, r.Intn(c.m.Size))
		}
		laid, _ = impl.LayKeys(c.m, c.set, random)
		if taken, _, _ := impl.GainAtLast(laid, 0); taken != c.set {
			lost++
		}
	}
	if lost < 200 {
		t.Error("too few fillings have keys that are never taken:", lost)
	}
}

// The guarantee of the chapter.
func TestFillingGuarantee(t *testing.T) {
	r := newRandom()
	won := 0
	for _, c := range append(filledCases(r, 500, 6, 3), filledCase{hardFilled(), 58}, filledCase{hardFilled(), 42}) {
		count, ok := impl.CountFillings(c.m, c.set)
		first, firstOK := impl.FirstFilling(c.m, c.set)
		deepest, depth, deepestOK := impl.DeepestFilling(c.m, c.set)
		near, nearOK := impl.FillingWins(c.m, c.set, make([]int, len(plainColours(c.set))))
		if !ok || !nearOK || firstOK != (count > 0) || deepestOK != (count > 0) || near != (count > 0) {
			t.Fatal("fillings of", textOf(c.m), c.set, count, ok, firstOK, deepestOK, near, nearOK)
		}
		for _, colour := range plainColours(c.set) {
			counts, ok := impl.NodeCounts(c.m, c.set, colour)
			sum := 0
			for _, n := range counts {
				sum += n
			}
			if !ok || sum != count {
				t.Fatal("NodeCounts of", textOf(c.m), c.set, colour, counts, ok, count)
			}
		}
		if count == 0 {
			continue
		}
		won++
		firstWins, _ := impl.FillingWins(c.m, c.set, first)
		deepestDepth, deepestWins := impl.FillingDepth(c.m, c.set, deepest)
		if !firstWins || !deepestWins || deepestDepth != depth {
			t.Fatal("fillings of", textOf(c.m), c.set, first, firstWins, deepest, depth, deepestDepth)
		}
		for _, filling := range plainFillings(c.m, c.set) {
			if other, _ := impl.FillingDepth(c.m, c.set, filling); other > depth {
				t.Fatal("FillingDepth of", textOf(c.m), c.set, filling, other, depth)
			}
		}
	}
	if won < 200 {
		t.Error("too few Mazes are won:", won)
	}
}

func TestFillingIsTotal(t *testing.T) {
	mazes := append(oddMazes(), mazeOf("1 0"), mazeOf("1 63"), mazeOf("2 0,0"), mazeOf("2 1,0 0-1-1"), mazeOf("3 7,7,7 0-1-1 1-2-2"), hardFilled(), chain(7), fullMaze())
	sets := []int{0, 1, 3, 58, 63, 64, -1, math.MaxInt, math.MinInt}
	fillings := [][]int{
		nil, {0}, {1}, {0, 1}, {1, 0}, {0, 0, 0, 0}, {0, 1, 2, 3, 4, 5}, {5, 4, 3, 2, 1, 0}, {-1}, {0, 12}, {math.MinInt}, {0, math.MaxInt}, slices.Repeat([]int{0}, 100),
	}
	checkTotal(t, []named{
		{"LayKeys", impl.LayKeys}, {"IsFilling", impl.IsFilling}, {"FillingWins", impl.FillingWins}, {"FillingDepth", impl.FillingDepth},
		{"CountFillings", impl.CountFillings}, {"FirstFilling", impl.FirstFilling}, {"DeepestFilling", impl.DeepestFilling}, {"NodeCounts", impl.NodeCounts},
		{"GoodSwaps", impl.GoodSwaps},
	}, []any{mazes, sets, fillings})
	// These take more arguments, and so fewer of each kind.
	mazes = mazes[len(mazes)-10:]
	checkTotal(t, []named{{"SwapFilling", impl.SwapFilling}}, []any{mazes, []int{0, 1, 3, 63, -1, math.MinInt}, fillings[:10]})
	checkTotal(t, []named{{"AssumedFilling", impl.AssumedFilling}, {"ForwardFilling", impl.ForwardFilling}}, []any{mazes, sets, fillings})
}
