package tests

import (
	"fmt"
	"math"
	"slices"
	"testing"

	"loop.example/g01158/impl"
)

// plainPlay follows the words of the document: it returns the set at first and behind each round
// but the last one, and for each node the round in which it is entered, or 0.
func plainPlay(m impl.Maze, first int) (sets []int, entered []int) {
	set := first
	sets, entered = []int{set}, make([]int, m.Size)
	for round := 1; ; round++ {
		had := set
		for _, x := range plainReach(m, 0, had) {
			if entered[x] == 0 {
				entered[x] = round
			}
			set |= m.Keys[x]
		}
		if set == had {
			return sets, entered
		}
		sets = append(sets, set)
	}
}

// withFirst returns the Maze in which the colours at first lie at node 0: its key walks are those
// of a Maze with these colours at first.
func withFirst(m impl.Maze, first int) impl.Maze {
	made := impl.Maze{Size: m.Size, Doors: m.Doors, Keys: slices.Clone(m.Keys)}
	made.Keys[0] |= first
	return made
}

// plainWinsWith is plainWins with some colours at first; no rounds are made for it.
func plainWinsWith(m impl.Maze, first int) bool { return plainWins(withFirst(m, first)) }

// checkReaching holds all functions that tell of rounds against what they must return.
func checkReaching(t *testing.T, m impl.Maze, first int, sets []int, entered []int) {
	t.Helper()
	name := fmt.Sprintf(" of %s with %d", textOf(m), first)
	nodes := []int{}
	for x, round := range entered {
		if round > 0 {
			nodes = append(nodes, x)
		}
	}
	round := entered[m.Size-1]
	got, ok := impl.RoundsOf(m, first)
	wantList(t, "RoundsOf"+name, got, ok, sets)
	last, got, ok := impl.GainAtLast(m, first)
	wantInt(t, "GainAtLast"+name, last, ok, sets[len(sets)-1], true)
	wantList(t, "GainAtLast"+name, got, ok, nodes)
	got, ok = impl.NodeRounds(m, first)
	wantList(t, "NodeRounds"+name, got, ok, entered)
	won, ok := impl.WinRound(m, first)
	wantInt(t, "WinRound"+name, won, ok, round, round > 0)
	if can, ok := impl.CanWin(m, first); !ok || can != (round > 0) {
		t.Errorf("CanWin%s = %v, %v; want %v, true", name, can, ok, round > 0)
	}
}

func TestReachingOfGivenMazes(t *testing.T) {
	for _, c := range []struct {
		text    string
		first   int
		sets    []int
		entered []int
	}{
		{"4 0,1,2,0 0-1-0 0-2-1 2-3-2", 0, []int{0, 1, 3}, []int{1, 1, 2, 3}},
		{"4 0,1,2,0 0-1-0 0-2-1 2-3-2", 1, []int{1, 3}, []int{1, 1, 1, 2}},
		{"4 0,1,2,0 0-1-0 0-2-1 2-3-2", 2, []int{2, 3}, []int{1, 1, 2, 2}},
		// A Maze of one node, whose goal is node 0.
		{"1 0", 0, []int{0}, []int{1}},
		{"1 0", 63, []int{63}, []int{1}},
		{"1 63", 0, []int{0, 63}, []int{1}},
		{"1 63", 63, []int{63}, []int{1}},
		{"1 5", 2, []int{2, 7}, []int{1}},
		// The goal has no doors, or none that can be opened, or is behind a node that has none.
		{"2 0,0", 0, []int{0}, []int{1, 0}},
		{"2 63,63", 63, []int{63}, []int{1, 0}},
		{"3 1,2,4 0-1-1", 0, []int{0, 1, 3}, []int{1, 2, 0}},
		{"2 0,1 0-1-1", 0, []int{0}, []int{1, 0}},
		{"2 0,1 0-1-1", 62, []int{62}, []int{1, 0}},
		{"3 0,0,0 1-2-0", 63, []int{63}, []int{1, 0, 0}},
		// The keys of a node open no door in the round that enters it.
		{"2 1,0 0-1-1", 0, []int{0, 1}, []int{1, 2}},
		{"2 0,0 0-1-0", 0, []int{0}, []int{1, 1}},
		{"3 0,1,0 0-1-0 1-2-1", 0, []int{0, 1}, []int{1, 1, 2}},
		// Keys that bring no new colour make no round, but the last round enters nodes.
		{"3 1,1,1 0-1-1 1-2-1", 1, []int{1}, []int{1, 1, 1}},
		{"3 1,1,1 0-1-1 1-2-1", 0, []int{0, 1}, []int{1, 2, 2}},
		{"3 1,1,3 0-1-1 1-2-2", 0, []int{0, 1}, []int{1, 2, 0}},
		{"4 1,1,0,2 0-1-1 1-2-1 2-3-1", 0, []int{0, 1, 3}, []int{1, 2, 2, 2}},
		// One goes through doors from a to b and from b to a, and as far as one can in one round.
		{"4 0,0,0,0 0-2-0 1-2-0 1-3-0", 0, []int{0}, []int{1, 1, 1, 1}},
		{"5 0,2,1,0,4 0-3-0 1-2-1 1-4-2 2-3-0", 0, []int{0, 1, 3, 7}, []int{1, 2, 1, 1, 3}},
		// One needs all colours of one door, and may have more.
		{"3 1,2,0 0-1-0 0-2-3", 0, []int{0, 3}, []int{1, 1, 2}},
		{"3 1,2,0 0-1-1 0-2-3", 0, []int{0, 1, 3}, []int{1, 2, 3}},
		{"2 2,0 0-1-1 0-1-2 0-1-4", 0, []int{0, 2}, []int{1, 2}},
		{"2 4,0 0-1-3 0-1-5 0-1-6", 0, []int{0, 4}, []int{1, 0}},
		{"2 0,4 0-1-3 0-1-5 0-1-6", 6, []int{6}, []int{1, 1}},
		// Several colours may come in one round; a colour that no door needs brings a round, too.
		{"3 7,56,0 0-1-7 1-2-63", 0, []int{0, 7, 63}, []int{1, 2, 3}},
		{"3 0,32,0 0-1-0 1-2-0", 0, []int{0, 32}, []int{1, 1, 1}},
		// All colours at first.
		{"4 1,2,4,8 0-1-63 1-2-63 2-3-63", 63, []int{63}, []int{1, 1, 1, 1}},
		{"4 1,2,4,8 0-1-63 1-2-63 2-3-63", 31, []int{31}, []int{1, 0, 0, 0}},
	} {
		checkReaching(t, mazeOf(c.text), c.first, c.sets, c.entered)
	}
}

// chain returns a Maze in which each node but the last one has the key of a new colour, which
// opens the only door to the next node.
func chain(size int) impl.Maze {
	m := impl.Maze{Size: size}
	for x := range size - 1 {
		m.Keys = append(m.Keys, power2(x))
		m.Doors = append(m.Doors, [3]int{x, x + 1, power2(x)})
	}
	m.Keys = append(m.Keys, 0)
	return m
}

func TestReachingInManyRounds(t *testing.T) {
	sets, entered := []int{0}, []int{1}
	for size := 2; size <= impl.MaxColours+1; size++ {
		sets = append(sets, power2(size-1)-1)
		entered = append(entered, size)
		checkReaching(t, chain(size), 0, sets, entered)
	}
	longest := chain(impl.MaxColours + 1)
	checkReaching(t, longest, 1, []int{1, 3, 7, 15, 31, 63}, []int{1, 1, 2, 3, 4, 5, 6})
	checkReaching(t, longest, 32, []int{32, 33, 35, 39, 47, 63}, []int{1, 2, 3, 4, 5, 6, 6})
	checkReaching(t, longest, 62, []int{62, 63}, []int{1, 2, 2, 2, 2, 2, 2})
	checkReaching(t, longest, 63, []int{63}, []int{1, 1, 1, 1, 1, 1, 1})
	checkReaching(t, fullMaze(), 0, []int{0, 1, 3}, []int{1, 1, 2, 3, 3, 0, 0, 0, 0, 0, 0, 0})
	checkReaching(t, fullMaze(), 28, []int{28, 31}, []int{1, 1, 1, 1, 2, 2, 2, 2, 2, 2, 2, 2})
}

// manyMazes returns small Mazes, and such up to all limits.
func manyMazes() []impl.Maze {
	mazes := append(someMazes(300), largeMazes(300)...)
	return append(mazes, fullMaze(), chain(5), chain(6), chain(7))
}

// someFirsts are sets of colours at first, most of them of those that small Mazes have.
var someFirsts = []int{0, 1, 2, 3, 4, 5, 6, 7, 8, 21, 32, 42, 62, 63}

func TestReachingOfManyMazes(t *testing.T) {
	wins := map[int]int{}
	for _, m := range manyMazes() {
		for _, first := range someFirsts {
			sets, entered := plainPlay(m, first)
			checkReaching(t, m, first, sets, entered)
			can, _ := impl.CanWin(m, first)
			if can != plainWinsWith(m, first) {
				t.Fatal("CanWin", textOf(m), first, can)
			}
			wins[entered[m.Size-1]]++
		}
	}
	for round := range 6 {
		if wins[round] == 0 {
			t.Error("no Maze is won in round", round, wins)
		}
	}
}

// A node is reached with the set at the beginning of the round that enters it, and not with that
// of the round before; a node that is never entered is reached with none.
func TestNodesAreEnteredInTheFirstRound(t *testing.T) {
	for _, m := range manyMazes() {
		for _, first := range someFirsts {
			sets, _ := impl.RoundsOf(m, first)
			rounds, _ := impl.NodeRounds(m, first)
			for x, entered := range rounds {
				for k, set := range sets {
					nodes, ok := impl.ReachWith(m, 0, set)
					if want := entered > 0 && entered <= k+1; !ok || slices.Contains(nodes, x) != want {
						t.Fatal("NodeRounds", textOf(m), first, rounds, "but node", x, "in round", k+1)
					}
				}
			}
		}
	}
}

func TestGainAtLastBringsNothingNew(t *testing.T) {
	for _, m := range manyMazes() {
		for _, first := range someFirsts {
			last, nodes, _ := impl.GainAtLast(m, first)
			entered := make([]int, m.Size)
			for _, x := range nodes {
				entered[x] = 1
				if m.Keys[x]|last != last {
					t.Fatal("GainAtLast", textOf(m), first, last, "without the keys of node", x)
				}
			}
			checkReaching(t, m, last, []int{last}, entered)
		}
	}
}

func TestMoreColoursAtFirstHaveNoLess(t *testing.T) {
	for _, m := range append(someMazes(60), append(largeMazes(60), chain(7))...) {
		for first := range 64 {
			last, _, _ := impl.GainAtLast(m, first)
			rounds, _ := impl.NodeRounds(m, first)
			for c := range 6 {
				more, _, ok := impl.GainAtLast(m, first|power2(c))
				if !ok || last|more != more || first|last != last {
					t.Fatal("GainAtLast", textOf(m), first, last, "and with", c, more)
				}
				sooner, _ := impl.NodeRounds(m, first|power2(c))
				for x, round := range rounds {
					if round > 0 && (sooner[x] == 0 || sooner[x] > round) {
						t.Fatal("NodeRounds", textOf(m), first, rounds, "and with", c, sooner)
					}
				}
			}
		}
	}
}

// checkRequired holds all functions that tell of parts of a Maze that can be won against what
// they must return.
func checkRequired(t *testing.T, m impl.Maze, first int, colours int, nodes []int, doors []int, idle []int) {
	t.Helper()
	name := fmt.Sprintf(" of %s with %d", textOf(m), first)
	set, ok := impl.RequiredColours(m, first)
	wantInt(t, "RequiredColours"+name, set, ok, colours, true)
	got, ok := impl.RequiredNodes(m, first)
	wantList(t, "RequiredNodes"+name, got, ok, nodes)
	got, ok = impl.RequiredDoors(m, first)
	wantList(t, "RequiredDoors"+name, got, ok, doors)
	got, ok = impl.IdleNodes(m, first)
	wantList(t, "IdleNodes"+name, got, ok, idle)
}

// checkNothingRequired checks that all functions that tell of parts of a Maze fail.
func checkNothingRequired(t *testing.T, m impl.Maze, first int) {
	t.Helper()
	name := fmt.Sprintf(" of %s with %d", textOf(m), first)
	set, ok := impl.RequiredColours(m, first)
	wantInt(t, "RequiredColours"+name, set, ok, 0, false)
	got, ok := impl.RequiredNodes(m, first)
	wantNoList(t, "RequiredNodes"+name, got, ok)
	got, ok = impl.RequiredDoors(m, first)
	wantNoList(t, "RequiredDoors"+name, got, ok)
	got, ok = impl.IdleNodes(m, first)
	wantNoList(t, "IdleNodes"+name, got, ok)
}

func TestRequiredPartsOfGivenMazes(t *testing.T) {
	for _, c := range []struct {
		text    string
		first   int
		colours int
		nodes   []int
		doors   []int
		idle    []int
	}{
		{"4 0,1,2,0 0-1-0 0-2-1 2-3-2", 0, 3, []int{1, 2}, []int{0, 1, 2}, []int{0, 3}},
		// Colours at first are not required, and who has them needs no key of them.
		{"4 0,1,2,0 0-1-0 0-2-1 2-3-2", 1, 2, []int{2}, []int{1, 2}, []int{0, 1, 3}},
		{"4 0,1,2,0 0-1-0 0-2-1 2-3-2", 63, 0, []int{2}, []int{1, 2}, []int{0, 1, 2, 3}},
		// A Maze of one node.
		{"1 0", 0, 0, nil, nil, []int{0}},
		{"1 63", 0, 0, nil, nil, []int{0}},
		// 0 and the goal are no required nodes, but may be idle or not.
		{"2 1,0 0-1-1", 0, 1, nil, []int{0}, []int{1}},
		{"2 1,1 0-1-0", 0, 0, nil, []int{0}, []int{0, 1}},
		// Of two doors, two ways or two keys, none is required, but of both keys one is.
		{"2 0,0 0-1-0 0-1-1", 0, 0, nil, []int{0}, []int{0, 1}},
		{"2 1,0 0-1-0 0-1-1", 0, 0, nil, nil, []int{0, 1}},
		{"4 0,0,0,0 0-1-0 0-2-0 1-3-0 2-3-0", 0, 0, nil, nil, []int{0, 1, 2, 3}},
		{"3 63,63,63 0-1-0 0-1-63 0-2-0 0-2-63 1-2-0 1-2-63", 0, 0, nil, nil, []int{0, 1, 2}},
		{"4 0,1,1,0 0-1-0 0-2-0 0-3-1", 0, 1, nil, []int{2}, []int{0, 1, 2, 3}},
		{"4 0,1,2,0 0-1-0 0-2-0 0-3-1 0-3-2", 0, 0, nil, nil, []int{0, 1, 2, 3}},
		// A node may be required for its keys alone, or for its doors alone.
		{"3 0,1,0 0-1-0 0-2-1", 0, 1, []int{1}, []int{0, 1}, []int{0, 2}},
		{"3 0,1,0 0-1-0 1-2-0", 0, 0, []int{1}, []int{0, 1}, []int{0, 1, 2}},
		{"3 1,0,0 0-1-0 1-2-1", 0, 1, []int{1}, []int{0, 1}, []int{1, 2}},
		// A node without doors and a node that is never entered are idle.
		{"4 0,1,2,0 0-2-4 0-3-0", 0, 0, nil, []int{1}, []int{0, 1, 2, 3}},
		// A key of two colours, one of which lies elsewhere, too.
		{"3 3,2,0 0-1-0 0-2-3", 0, 3, nil, []int{1}, []int{1, 2}},
		{"4 0,48,32,0 0-1-0 0-2-0 0-3-48", 0, 48, []int{1}, []int{0, 2}, []int{0, 2, 3}},
	} {
		checkRequired(t, mazeOf(c.text), c.first, c.colours, c.nodes, c.doors, c.idle)
	}
	checkRequired(t, chain(7), 0, 63, []int{1, 2, 3, 4, 5}, []int{0, 1, 2, 3, 4, 5}, []int{6})
	checkRequired(t, chain(7), 21, 42, []int{1, 2, 3, 4, 5}, []int{0, 1, 2, 3, 4, 5}, []int{0, 2, 4, 6})
	for _, c := range []struct {
		text  string
		first int
	}{{"2 0,0", 0}, {"2 63,63", 63}, {"2 0,1 0-1-1", 0}, {"2 0,1 0-1-1", 62}, {"4 1,2,4,8 0-1-63 1-2-63 2-3-63", 31}} {
		checkNothingRequired(t, mazeOf(c.text), c.first)
	}
	checkNothingRequired(t, fullMaze(), 0)
}

// plainDropped returns a Maze without the doors, and without the keys, of which a test is true.
func plainDropped(m impl.Maze, dropsDoor func(k int, a int, b int) bool, dropsKey func(x int, c int) bool) impl.Maze {
	made := impl.Maze{Size: m.Size}
	for k, d := range m.Doors {
		if !dropsDoor(k, d[0], d[1]) {
			made.Doors = append(made.Doors, d)
		}
	}
	for x, set := range m.Keys {
		left := 0
		for c := range 6 {
			if set/power2(c)%2 == 1 && !dropsKey(x, c) {
				left += power2(c)
			}
		}
		made.Keys = append(made.Keys, left)
	}
	return made
}

func noDoor(int, int, int) bool { return false }

func noKey(int, int) bool { return false }

func plainWithoutNode(m impl.Maze, x int) impl.Maze {
	return plainDropped(m, func(_, a, b int) bool { return a == x || b == x }, noKey)
}

func plainWithoutColour(m impl.Maze, colour int) impl.Maze {
	return plainDropped(m, noDoor, func(_, c int) bool { return c == colour })
}

func plainWithoutKeys(m impl.Maze, x int) impl.Maze {
	return plainDropped(m, noDoor, func(y, _ int) bool { return x == y })
}

func TestRequiredPartsOfManyMazes(t *testing.T) {
	won, lost := 0, 0
	for _, m := range manyMazes() {
		for _, first := range someFirsts {
			if !plainWinsWith(m, first) {
				checkNothingRequired(t, m, first)
				lost++
				continue
			}
			won++
			colours, nodes, doors, idle := 0, []int{}, []int{}, []int{}
			for c := range 6 {
				if !plainWinsWith(plainWithoutColour(m, c), first) {
					colours += power2(c)
				}
			}
			for x := range m.Size {
				if x > 0 && x < m.Size-1 && !plainWinsWith(plainWithoutNode(m, x), first) {
					nodes = append(nodes, x)
				}
				if plainWinsWith(plainWithoutKeys(m, x), first) {
					idle = append(idle, x)
				}
			}
			for door := range m.Doors {
				less := plainDropped(m, func(k, _, _ int) bool { return k == door }, noKey)
				if !plainWinsWith(less, first) {
					doors = append(doors, door)
				}
			}
			checkRequired(t, m, first, colours, nodes, doors, idle)
		}
	}
	if won < 500 || lost < 500 {
		t.Error("too few Mazes are won or lost:", won, lost)
	}
}

// Each key walk that wins goes through all required nodes, and takes all required colours that
// are not there at first.
func TestWinningKeyWalksHaveAllThatIsRequired(t *testing.T) {
	for _, m := range append(someMazes(150), chain(4)) {
		colours, ok := impl.RequiredColours(m, 0)
		nodes, _ := impl.RequiredNodes(m, 0)
		keyWalks(m, 6, func(walk []int) {
			if walk[len(walk)-1] != m.Size-1 {
				return
			}
			taken, _ := plainTaken(m, walk)
			last := taken[len(taken)-1]
			if !ok || colours|last != last || !containsAll(walk, nodes) {
				t.Fatal("required", textOf(m), colours, nodes, ok, "but", walk)
			}
		})
	}
}

func TestWithoutNode(t *testing.T) {
	text := "4 1,2,4,8 0-1-5 0-1-6 0-3-7 1-2-8 1-3-9"
	for x, want := range []string{"4 1,2,4,8 1-2-8 1-3-9", "4 1,2,4,8 0-3-7", "4 1,2,4,8 0-1-5 0-1-6 0-3-7 1-3-9", "4 1,2,4,8 0-1-5 0-1-6 1-2-8"} {
		got, ok := impl.WithoutNode(mazeOf(text), x)
		wantMaze(t, fmt.Sprint("WithoutNode ", x), got, ok, want)
	}
	got, ok := impl.WithoutNode(mazeOf("1 9"), 0)
	wantMaze(t, "WithoutNode of one node", got, ok, "1 9")
	got, ok = impl.WithoutNode(mazeOf("3 1,2,3 0-2-0"), 1)
	wantMaze(t, "WithoutNode of a node without doors", got, ok, "3 1,2,3 0-2-0")
	checkNodeMaze(t, "WithoutNode", impl.WithoutNode, plainWithoutNode)
}

func TestWithoutKeys(t *testing.T) {
	text := "4 1,2,0,8 0-1-5 0-1-6 0-3-7 1-2-8 1-3-9"
	for x, want := range []string{"4 0,2,0,8", "4 1,0,0,8", "4 1,2,0,8", "4 1,2,0,0"} {
		got, ok := impl.WithoutKeys(mazeOf(text), x)
		wantMaze(t, fmt.Sprint("WithoutKeys ", x), got, ok, want+text[len("4 1,2,0,8"):])
	}
	got, ok := impl.WithoutKeys(mazeOf("1 9"), 0)
	wantMaze(t, "WithoutKeys of one node", got, ok, "1 0")
	checkNodeMaze(t, "WithoutKeys", impl.WithoutKeys, plainWithoutKeys)
}

// checkNodeMaze checks functions of a Maze and a node.
func checkNodeMaze(t *testing.T, name string, function func(impl.Maze, int) (impl.Maze, bool), plain func(impl.Maze, int) impl.Maze) {
	t.Helper()
	for _, m := range manyMazes() {
		for x := range m.Size {
			got, ok := function(m, x)
			wantMaze(t, fmt.Sprint(name, " of ", textOf(m), " ", x), got, ok, textOf(plain(m, x)))
		}
		for _, x := range append(noNumbers, m.Size, m.Size+1) {
			got, ok := function(m, x)
			wantMaze(t, fmt.Sprint(name, " of ", textOf(m), " ", x), got, ok, noMaze)
		}
	}
	for _, odd := range oddMazes() {
		got, ok := function(odd, 0)
		wantMaze(t, name+" of no Maze", got, ok, noMaze)
	}
}

func TestWithoutColour(t *testing.T) {
	text := "3 63,5,0 0-1-1 0-1-63 1-2-4"
	for colour, want := range []string{"3 62,4,0", "3 61,5,0", "3 59,1,0", "3 55,5,0", "3 47,5,0", "3 31,5,0"} {
		got, ok := impl.WithoutColour(mazeOf(text), colour)
		wantMaze(t, fmt.Sprint("WithoutColour ", colour), got, ok, want+text[len("3 63,5,0"):])
	}
	for _, m := range manyMazes() {
		for colour := range 6 {
			got, ok := impl.WithoutColour(m, colour)
			wantMaze(t, fmt.Sprint("WithoutColour of ", textOf(m), " ", colour), got, ok, textOf(plainWithoutColour(m, colour)))
		}
	}
	for _, colour := range append(noNumbers, 6, 7, 63) {
		got, ok := impl.WithoutColour(mazeOf(text), colour)
		wantMaze(t, fmt.Sprint("WithoutColour ", colour), got, ok, noMaze)
	}
	for _, odd := range oddMazes() {
		got, ok := impl.WithoutColour(odd, 0)
		wantMaze(t, "WithoutColour of no Maze", got, ok, noMaze)
	}
}

func TestHelpfulColours(t *testing.T) {
	for _, c := range []struct {
		text  string
		first int
		want  int
		ok    bool
	}{
		{"4 0,0,2,0 0-1-0 0-2-1 2-3-2", 0, 1, true},
		{"4 0,0,2,0 0-1-0 0-2-1 2-3-2", 62, 1, true},
		{"4 0,0,0,0 0-1-0 0-2-1 2-3-2", 0, 0, true},
		{"4 0,0,0,0 0-1-0 0-2-1 2-3-2", 1, 2, true},
		{"4 0,0,0,0 0-1-0 0-2-1 2-3-2", 2, 1, true},
		{"2 0,0 0-1-1 0-1-2 0-1-4 0-1-8 0-1-16 0-1-32", 0, 63, true},
		{"2 0,0 0-1-1 0-1-6 0-1-32", 2, 37, true},
		{"2 0,0", 0, 0, true},
		{"2 0,0", 63, 0, true},
		{"4 0,1,2,0 0-1-0 0-2-1 2-3-2", 0, 0, false},
		{"2 0,0 0-1-1 0-1-2", 1, 0, false},
		{"1 0", 0, 0, false},
		{"1 63", 63, 0, false},
	} {
		got, ok := impl.HelpfulColours(mazeOf(c.text), c.first)
		wantInt(t, fmt.Sprint("HelpfulColours of ", c.text, " ", c.first), got, ok, c.want, c.ok)
	}
	for _, m := range manyMazes() {
		for _, first := range someFirsts {
			fails, want := plainWinsWith(m, first), 0
			for c := range 6 {
				if !fails && plainWinsWith(m, first|power2(c)) {
					want += power2(c)
				}
			}
			got, ok := impl.HelpfulColours(m, first)
			wantInt(t, fmt.Sprint("HelpfulColours of ", textOf(m), " ", first), got, ok, want, !fails)
		}
	}
}

// A set that is one too great or negative fails like one that is far away.
func TestReachingWithNoSet(t *testing.T) {
	for _, m := range []impl.Maze{mazeOf("1 0"), mazeOf("2 0,0"), mazeOf("2 0,0 0-1-0"), chain(7), fullMaze()} {
		for _, first := range append(noNumbers, 65, 127, 128) {
			checkReachingFails(t, m, first)
		}
	}
}

func TestReachingOfNoMaze(t *testing.T) {
	for _, odd := range oddMazes() {
		for _, first := range []int{0, 1, 63, 64, -1} {
			checkReachingFails(t, odd, first)
		}
	}
}

// checkReachingFails checks that all functions with colours at first fail.
func checkReachingFails(t *testing.T, m impl.Maze, first int) {
	t.Helper()
	name := fmt.Sprintf(" of %s with %d", shorten(textOf(m)), first)
	got, ok := impl.RoundsOf(m, first)
	wantNoList(t, "RoundsOf"+name, got, ok)
	last, got, ok := impl.GainAtLast(m, first)
	wantInt(t, "GainAtLast"+name, last, ok, 0, false)
	wantNoList(t, "GainAtLast"+name, got, ok)
	if can, ok := impl.CanWin(m, first); can || ok {
		t.Error("CanWin"+name, can, ok)
	}
	got, ok = impl.NodeRounds(m, first)
	wantNoList(t, "NodeRounds"+name, got, ok)
	round, ok := impl.WinRound(m, first)
	wantInt(t, "WinRound"+name, round, ok, 0, false)
	checkNothingRequired(t, m, first)
	set, ok := impl.HelpfulColours(m, first)
	wantInt(t, "HelpfulColours"+name, set, ok, 0, false)
}

func TestReachingIsTotal(t *testing.T) {
	numbers := []int{0, 1, 2, 3, 5, 6, 11, 12, 13, 63, 64, -1, math.MaxInt, math.MinInt}
	mazes := append(oddMazes(), mazeOf("1 0"), mazeOf("2 0,0"), mazeOf("2 1,0 0-1-1"), mazeOf("4 9,9,9,9 0-1-63 0-3-18 2-3-5"), chain(7), fullMaze())
	checkTotal(t, []named{
		{"RoundsOf", impl.RoundsOf}, {"GainAtLast", impl.GainAtLast}, {"CanWin", impl.CanWin}, {"NodeRounds", impl.NodeRounds}, {"WinRound", impl.WinRound},
		{"RequiredColours", impl.RequiredColours}, {"RequiredNodes", impl.RequiredNodes}, {"RequiredDoors", impl.RequiredDoors}, {"IdleNodes", impl.IdleNodes},
		{"WithoutNode", impl.WithoutNode}, {"WithoutColour", impl.WithoutColour}, {"WithoutKeys", impl.WithoutKeys}, {"HelpfulColours", impl.HelpfulColours},
	}, []any{mazes, numbers})
}
