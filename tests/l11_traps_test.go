package tests

import (
	"fmt"
	"math"
	"math/rand"
	"slices"
	"strings"
	"testing"

	"loop.example/g01158/impl"
)

// trapOf reads a text like "3 0,0,0 0-1-0 0-2-0 @ 0,1": a Maze and, if there are some, the places of
// the doors of one way, all with any numbers.
func trapOf(text string) impl.Trap {
	maze, places, hasPlaces := strings.Cut(text, " @ ")
	t := impl.Trap{Maze: mazeOf(maze)}
	if hasPlaces {
		for _, place := range strings.Split(places, ",") {
			t.OneWay = append(t.OneWay, numberOf(place))
		}
	}
	return t
}

func trapText(t impl.Trap) string {
	if len(t.OneWay) == 0 {
		return textOf(t.Maze)
	}
	return textOf(t.Maze) + " @ " + commas(t.OneWay)
}

// noTrap is what trapText shows of the Trap that a function returns if it fails.
const noTrap = noMaze

func wantTrap(t *testing.T, name string, got impl.Trap, ok bool, want string) {
	t.Helper()
	if trapText(got) != want || ok != (want != noTrap) {
		t.Errorf("%s = %s, %v; want %s", name, trapText(got), ok, want)
	}
}

// plainIsTrap follows the words of the document.
func plainIsTrap(t impl.Trap) bool {
	if !plainIsMaze(t.Maze) {
		return false
	}
	last := -1
	for _, place := range t.OneWay {
		if place <= last || place > len(t.Maze.Doors)-1 {
			return false
		}
		last = place
	}
	return true
}

// plainTrapNext returns the points one step behind another one, in ascending order of their nodes.
func plainTrapNext(t impl.Trap, p point) []point {
	next := []point{}
	for y := range t.Maze.Size {
		can := false
		for k, d := range t.Maze.Doors {
			there, back := d[0] == p[0] && d[1] == y, d[1] == p[0] && d[0] == y
			if back && !slices.Contains(t.OneWay, k) {
				there = true
			}
			can = can || there && p[1]|d[2] == p[1]
		}
		if can {
			next = append(next, point{y, p[1] | t.Maze.Keys[y]})
		}
	}
	return next
}

// plainBehindWalk returns the point behind a list, and whether it is a trap walk.
func plainBehindWalk(t impl.Trap, list []int) (point, bool) {
	if len(list) == 0 || list[0] != 0 {
		return point{}, false
	}
	p := plainStart(t.Maze)
	for _, y := range list[1:] {
		i := slices.IndexFunc(plainTrapNext(t, p), func(next point) bool { return next[0] == y })
		if i < 0 {
			return point{}, false
		}
		p = plainTrapNext(t, p)[i]
	}
	return p, true
}

// plainNexts returns for each point, met or not, those one step behind it.
func plainNexts(t impl.Trap) map[point][]point {
	nexts := map[point][]point{}
	for x := range t.Maze.Size {
		for set := range 64 {
			nexts[point{x, set}] = plainTrapNext(t, point{x, set})
		}
	}
	return nexts
}

// plainGood tells of each point, met or not, whether it is good. It goes over all points again as
// long as one is found that has a step to a good one.
func plainGood(t impl.Trap, nexts map[point][]point) map[point]bool {
	good := map[point]bool{}
	for set := range 64 {
		good[point{t.Maze.Size - 1, set}] = true
	}
	for changed := true; changed; {
		changed = false
		for p, next := range nexts {
			if !good[p] && slices.ContainsFunc(next, func(q point) bool { return good[q] }) {
				good[p] = true
				changed = true
			}
		}
	}
	return good
}

// plainMetWalks returns for each point that is met from another one the least of the shortest lists
// of nodes that lead to it.
func plainMetWalks(from point, nexts map[point][]point) map[point][]int {
	met := map[point][]int{from: {from[0]}}
	for newest := met; len(newest) > 0; {
		further := map[point][]int{}
		for p, walk := range newest {
			for _, next := range nexts[p] {
				longer := append(slices.Clone(walk), next[0])
				_, isOld := met[next]
				other, has := further[next]
				if !isOld && (!has || slices.Compare(longer, other) < 0) {
					further[next] = longer
				}
			}
		}
		for p, walk := range further {
			met[p] = walk
		}
		newest = further
	}
	return met
}

// toldTrap is what the functions tell of a Trap alone. Lost states are told as their nodes and sets
// with a dash between them.
type toldTrap struct {
	met, lost int
	states    string
	walk      string
	win       string
	free      string
}

// plainTrap follows the words of the document.
func plainTrap(t impl.Trap) toldTrap {
	nexts := plainNexts(t)
	good := plainGood(t, nexts)
	met := plainMetWalks(plainStart(t.Maze), nexts)
	want := toldTrap{met: len(met), walk: none, win: none}
	states, first := []string{}, []int(nil)
	for x := range t.Maze.Size {
		for set := range 64 {
			walk, is := met[point{x, set}]
			if is && !good[point{x, set}] {
				states = append(states, fmt.Sprintf("%d-%d", x, set))
				if first == nil || len(walk) < len(first) || len(walk) == len(first) && slices.Compare(walk, first) < 0 {
					first = walk
				}
			}
			if is && x == t.Maze.Size-1 && (want.win == none || numberOf(want.win) > len(walk)-1) {
				want.win = fmt.Sprint(len(walk) - 1)
			}
		}
	}
	want.lost, want.states = len(states), strings.Join(states, " ")
	if first != nil {
		want.walk = commas(first)
	}
	want.free = setsWhere(func(set int) bool {
		for p := range plainMetWalks(point{0, t.Maze.Keys[0] | set}, nexts) {
			if !good[p] {
				return false
			}
		}
		return true
	})
	return want
}

// setsWhere returns all sets of which a test is true.
func setsWhere(test func(set int) bool) string {
	sets := []int{}
	for set := range 64 {
		if test(set) {
			sets = append(sets, set)
		}
	}
	return commas(sets)
}

func pairsText(pairs [][2]int) string {
	texts := []string{}
	for _, pair := range pairs {
		texts = append(texts, fmt.Sprintf("%d-%d", pair[0], pair[1]))
	}
	return strings.Join(texts, " ")
}

// askTrap returns what the package tells of a valid Trap.
func askTrap(t *testing.T, trap impl.Trap) toldTrap {
	t.Helper()
	name := trapText(trap)
	met, lost, metOK := impl.CountMet(trap)
	states, statesOK := impl.LostStates(trap)
	free, freeOK := impl.TrapFreeSets(trap)
	if !impl.IsTrap(trap) || !metOK || !statesOK || !freeOK || len(states) != lost {
		t.Error("a Trap", name, metOK, statesOK, freeOK, len(states), lost)
	}
	walk, walkOK := impl.FirstToLose(trap)
	steps, stepsOK := impl.FewestToLose(trap)
	if stepsOK != walkOK || walkOK && steps != len(walk)-1 || !walkOK && steps != 0 {
		t.Error("FewestToLose of", name, steps, stepsOK, walk, walkOK)
	}
	return toldTrap{met, lost, pairsText(states), listOrNone(walk, walkOK), intOrNone(impl.FewestToWin(trap)), commas(free)}
}

func checkTrap(t *testing.T, trap impl.Trap, want toldTrap) {
	t.Helper()
	if got := askTrap(t, trap); got != want {
		t.Errorf("trap %s = %+v; want %+v", trapText(trap), got, want)
	}
}

var (
	allFree  = setsWhere(func(int) bool { return true })
	oddFree  = setsWhere(func(set int) bool { return has(set, 0) })
	evenFree = setsWhere(func(set int) bool { return !has(set, 0) })
)

func TestGivenTraps(t *testing.T) {
	for _, c := range []struct {
		text string
		want toldTrap
	}{
		// A Maze of one node, whose first state is at the goal.
		{"1 0", toldTrap{1, 0, "", none, "0", allFree}},
		{"1 63", toldTrap{1, 0, "", none, "0", allFree}},
		// No doors of one way: all states are good, or all are lost.
		{"2 0,0 0-1-0", toldTrap{2, 0, "", none, "1", allFree}},
		{"3 0,0,0 0-1-0 0-2-0", toldTrap{3, 0, "", none, "1", allFree}},
		{"3 0,1,0 0-1-0 0-2-1", toldTrap{4, 0, "", none, "3", allFree}},
		{"2 0,0", toldTrap{1, 1, "0-0", "0", none, ""}},
		{"2 63,0", toldTrap{1, 1, "0-63", "0", none, ""}},
		// A goal that cannot be had with the keys that lie there, but with some at first.
		{"2 0,1 0-1-1", toldTrap{1, 1, "0-0", "0", none, oddFree}},
		{"3 0,1,0 0-1-0 1-2-2", toldTrap{3, 3, "0-0 0-1 1-1", "0", none, setsWhere(func(set int) bool { return has(set, 1) })}},
		{"3 4,1,0 0-1-0 1-2-2 @ 0", toldTrap{2, 2, "0-4 1-5", "0", none, setsWhere(func(set int) bool { return has(set, 1) })}},
		{"2 0,0 0-1-63 @ 0", toldTrap{1, 1, "0-0", "0", none, "63"}},
		// A door of one way to the goal is no trap.
		{"2 0,0 0-1-0 @ 0", toldTrap{2, 0, "", none, "1", allFree}},
		{"2 1,0 0-1-1 @ 0", toldTrap{2, 0, "", none, "1", allFree}},
		{"2 0,1 0-1-1 @ 0", toldTrap{1, 1, "0-0", "0", none, oddFree}},
		// The traps of the stage's test, with other doors of one way.
		{"3 0,0,0 0-1-0 0-2-0 @ 0", toldTrap{3, 1, "1-0", "0,1", "1", ""}},
		{"3 0,0,0 0-1-0 0-2-0 @ 1", toldTrap{3, 0, "", none, "1", allFree}},
		{"3 0,0,0 0-1-0 0-2-0 @ 0,1", toldTrap{3, 1, "1-0", "0,1", "1", ""}},
		// All doors are of one way, and all lead to the goal in the end.
		{"4 0,0,0,0 0-1-0 0-2-0 1-3-0 2-3-0 @ 0,1,2,3", toldTrap{4, 0, "", none, "2", allFree}},
		{"3 0,1,0 0-1-0 1-2-1 @ 0,1", toldTrap{3, 0, "", none, "2", allFree}},
		// Several doors between the same nodes, of which some are of one way.
		{"3 0,0,0 0-1-0 0-1-1 0-2-0 @ 0", toldTrap{3, 1, "1-0", "0,1", "1", oddFree}},
		{"3 0,0,0 0-1-0 0-1-1 0-2-0 @ 1", toldTrap{3, 0, "", none, "1", allFree}},
		{"3 0,0,0 0-1-0 0-1-1 0-2-0 @ 0,1", toldTrap{3, 1, "1-0", "0,1", "1", ""}},
		// The key that opens the way back is taken at the node to which the step leads.
		{"3 0,1,0 0-1-0 0-1-1 0-2-0 @ 0", toldTrap{5, 0, "", none, "1", allFree}},
		{"3 0,1,0 0-1-0 0-1-1 0-2-0 @ 0,1", toldTrap{3, 1, "1-1", "0,1", "1", ""}},
		{"4 0,1,0,0 0-1-0 1-2-0 1-3-1 @ 0,1", toldTrap{4, 1, "2-1", "0,1,2", "2", ""}},
		// A node from which one can win with a key, but not without it.
		{"4 0,1,0,0 0-1-0 0-2-0 2-3-1 @ 1", toldTrap{6, 1, "2-0", "0,2", "4", oddFree}},
		// A trap behind a door that only more colours open.
		{"3 0,0,0 0-1-1 0-2-0 @ 0", toldTrap{2, 0, "", none, "1", evenFree}},
		{"3 0,0,1 0-1-1 0-2-0 @ 0", toldTrap{4, 1, "1-1", "0,2,0,1", "1", ""}},
		{"3 0,0,0 0-1-1 0-1-2 0-2-0 @ 0", toldTrap{2, 0, "", none, "1", setsWhere(func(set int) bool { return !has(set, 0) || has(set, 1) })}},
		// With too few colours at first all is lost, and with too many some of it.
		{"3 0,0,0 0-1-2 0-2-1 @ 0", toldTrap{1, 1, "0-0", "0", none, setsWhere(func(set int) bool { return has(set, 0) && !has(set, 1) })}},
		// Walks of the same number of steps to lost states.
		{"4 0,0,0,0 0-1-0 0-2-0 0-3-0 @ 0,1", toldTrap{4, 2, "1-0 2-0", "0,1", "1", ""}},
		{"4 0,0,0,0 0-1-1 0-2-0 0-3-0 @ 0,1", toldTrap{3, 1, "2-0", "0,2", "1", ""}},
		{"6 0,0,0,0,0,0 0-1-0 0-2-0 0-5-0 1-4-0 2-3-0 @ 3,4", toldTrap{6, 2, "3-0 4-0", "0,1,4", "1", ""}},
		{"5 0,0,0,0,0 0-1-0 0-2-0 0-4-0 1-3-0 2-3-0 @ 3,4", toldTrap{5, 1, "3-0", "0,1,3", "1", ""}},
		// A shorter walk that is not less.
		{"5 0,0,0,0,0 0-1-0 0-3-0 0-4-0 1-2-0 @ 1,3", toldTrap{5, 2, "2-0 3-0", "0,3", "1", ""}},
		// A lost state behind the goal.
		{"4 0,0,0,0 0-3-0 1-2-0 1-3-0 @ 1", toldTrap{4, 1, "2-0", "0,3,1,2", "1", ""}},
		// Steps go on from lost states, and back to others of them.
		{"4 0,0,2,0 0-1-0 0-3-0 1-2-0 @ 0", toldTrap{5, 3, "1-0 1-2 2-2", "0,1", "1", ""}},
		// Nodes that cannot be reached, whatever is lost there.
		{"4 0,0,0,0 0-3-0 1-2-0", toldTrap{2, 0, "", none, "1", allFree}},
		{"4 0,0,0,0 0-3-0 1-2-0 1-3-0 2-3-0 @ 2,3", toldTrap{2, 0, "", none, "1", allFree}},
		// The same node with different sets, lost with one of them.
		{"4 0,0,1,0 0-1-0 0-2-0 1-3-1 @ 0", toldTrap{6, 1, "1-0", "0,1", "4", oddFree}},
	} {
		trap := trapOf(c.text)
		if trapText(trap) != c.text {
			t.Error("the text of", c.text, "is", trapText(trap))
		}
		if plain := plainTrap(trap); plain != c.want {
			t.Errorf("the plain trap %s is %+v; want %+v", c.text, plain, c.want)
		}
		checkTrap(t, trap, c.want)
	}
}

func TestStatesOfGivenTraps(t *testing.T) {
	for _, c := range []struct {
		text   string
		x, set int
		steps  string
		good   bool
	}{
		{"1 0", 0, 0, "", true},
		{"1 63", 0, 63, "", true},
		{"1 63", 0, 0, "", true},
		// Through a door of one way one cannot go back.
		{"3 0,0,0 0-1-0 0-2-0 @ 0", 0, 0, "1,2", true},
		{"3 0,0,0 0-1-0 0-2-0 @ 0", 1, 0, "", false},
		{"3 0,0,0 0-1-0 0-2-0 @ 0", 1, 63, "", false},
		{"3 0,0,0 0-1-0 0-2-0 @ 0", 2, 0, "0", true},
		{"3 0,0,0 0-1-0 0-2-0 @ 1", 2, 0, "", true},
		{"3 0,0,0 0-1-0 0-2-0", 1, 0, "0", true},
		// One of several doors is of one way, and needs a key or does not.
		{"3 0,0,0 0-1-0 0-1-1 0-2-0 @ 0", 1, 0, "", false},
		{"3 0,0,0 0-1-0 0-1-1 0-2-0 @ 0", 1, 1, "0", true},
		{"3 0,0,0 0-1-0 0-1-1 0-2-0 @ 1", 1, 0, "0", true},
		{"3 0,0,0 0-1-0 0-1-1 0-2-0 @ 0,1", 1, 1, "", false},
		// States that are not met.
		{"2 0,0 0-1-1", 0, 1, "1", true},
		{"2 0,0 0-1-1", 0, 62, "", false},
		{"2 0,0 0-1-1", 0, 0, "", false},
		{"2 0,0 0-1-3", 0, 1, "", false},
		{"2 0,0 0-1-3", 0, 7, "1", true},
		{"4 0,0,0,0 0-3-0 1-2-0 1-3-0 2-3-0 @ 1,2,3", 1, 5, "2,3", true},
		{"4 0,0,0,0 0-3-0 1-2-0 1-3-0 2-3-0 @ 1,2,3", 2, 5, "3", true},
		{"4 0,0,0,0 0-3-0 1-2-0 1-3-0 @ 1", 2, 5, "", false},
		// The keys of the node are not taken where one begins.
		{"2 1,0 0-1-1", 0, 0, "", false},
		{"2 1,0 0-1-1", 0, 1, "1", true},
		{"3 0,1,0 0-1-0 1-2-1 @ 0", 1, 0, "", false},
		{"3 0,1,0 0-1-0 1-2-1 @ 0", 1, 1, "2", true},
		{"3 0,1,0 0-1-0 1-2-1 @ 0", 1, 62, "", false},
		// They are when one comes back, also by a door of one way that leads to where one began.
		{"3 0,1,0 0-1-0 1-2-1", 1, 0, "0", true},
		{"4 0,1,0,0 0-1-0 0-2-0 1-2-0 1-3-1 @ 0,2", 1, 0, "2", true},
		{"4 0,1,0,0 0-1-0 0-2-0 1-2-0 1-3-1 @ 0,1,2", 1, 0, "2", false},
		{"3 1,0,0 0-1-0 0-2-1", 0, 0, "1", true},
		{"3 1,0,0 0-1-0 0-2-1 @ 0", 0, 0, "1", false},
		// The goal is good with any set, and without doors.
		{"2 0,63", 1, 0, "", true},
		{"2 0,0", 1, 21, "", true},
		{"2 0,0", 0, 63, "", false},
	} {
		trap := trapOf(c.text)
		name := fmt.Sprintf(" of %s, %d, %d", c.text, c.x, c.set)
		steps, ok := impl.StepsFrom(trap, c.x, c.set)
		if commas(steps) != c.steps || !ok {
			t.Error("StepsFrom"+name, steps, ok)
		}
		if good, ok := impl.IsGood(trap, c.x, c.set); good != c.good || !ok {
			t.Error("IsGood"+name, good, ok)
		}
	}
}

// checkTrapStates holds the functions of all states, met or not, against what they must return.
func checkTrapStates(t *testing.T, trap impl.Trap) {
	t.Helper()
	nexts := plainNexts(trap)
	good := plainGood(trap, nexts)
	for p, next := range nexts {
		name := fmt.Sprintf(" of %s, %d, %d", trapText(trap), p[0], p[1])
		steps, ok := impl.StepsFrom(trap, p[0], p[1])
		wantList(t, "StepsFrom"+name, steps, ok, nodesOf(next))
		if is, ok := impl.IsGood(trap, p[0], p[1]); is != good[p] || !ok {
			t.Error("IsGood"+name, is, ok)
		}
	}
}

func nodesOf(points []point) []int {
	nodes := []int{}
	for _, p := range points {
		nodes = append(nodes, p[0])
	}
	return nodes
}

// toldWalk is what the functions tell of a list of nodes.
type toldWalk struct {
	is     bool
	x, set int
	good   string
}

var noWalk = toldWalk{good: none}

func checkTrapWalk(t *testing.T, trap impl.Trap, list []int, want toldWalk) {
	t.Helper()
	name := fmt.Sprint(" of ", trapText(trap), ", ", list)
	if is, ok := impl.IsTrapWalk(trap, list); is != want.is || !ok {
		t.Error("IsTrapWalk"+name, is, ok)
	}
	if x, set, ok := impl.StateBehind(trap, list); x != want.x || set != want.set || ok != want.is {
		t.Error("StateBehind"+name, x, set, ok)
	}
	steps, ok := impl.GoodSteps(trap, list)
	if listOrNone(steps, ok) != want.good || ok != want.is {
		t.Error("GoodSteps"+name, steps, ok)
	}
}

// plainWalk follows the words of the document.
func plainWalk(trap impl.Trap, good map[point]bool, list []int) toldWalk {
	p, is := plainBehindWalk(trap, list)
	if !is {
		return noWalk
	}
	steps := slices.DeleteFunc(plainTrapNext(trap, p), func(next point) bool { return !good[next] })
	return toldWalk{true, p[0], p[1], commas(nodesOf(steps))}
}

func TestGivenTrapWalks(t *testing.T) {
	const (
		one  = "3 0,0,0 0-1-0 0-2-0 @ 0"
		keys = "5 2,1,0,4,0 0-1-0 0-2-1 0-3-0 1-3-0 2-4-5 @ 1,2"
	)
	for _, c := range []struct {
		text string
		list []int
		want toldWalk
	}{
		// Node 0 alone.
		{"1 0", []int{0}, toldWalk{true, 0, 0, ""}},
		{"1 63", []int{0}, toldWalk{true, 0, 63, ""}},
		{one, []int{0}, toldWalk{true, 0, 0, "2"}},
		{"2 0,0", []int{0}, toldWalk{true, 0, 0, ""}},
		// Forth and back through doors of both ways, and of one way.
		{"3 0,0,0 0-1-0 0-2-0", []int{0, 1, 0, 1, 0, 2}, toldWalk{true, 2, 0, "0"}},
		{"3 0,0,0 0-1-0 0-2-0", []int{0}, toldWalk{true, 0, 0, "1,2"}},
		{one, []int{0, 2, 0, 2, 0, 1}, toldWalk{true, 1, 0, ""}},
		{one, []int{0, 2, 0}, toldWalk{true, 0, 0, "2"}},
		{one, []int{0, 1, 0}, noWalk},
		{one, []int{0, 2, 0, 1, 0}, noWalk},
		// Back through the other one of two doors, which is closed or open.
		{"3 0,0,0 0-1-0 0-1-1 0-2-0 @ 0", []int{0, 1, 0}, noWalk},
		{"3 0,1,0 0-1-0 0-1-1 0-2-0 @ 0", []int{0, 1, 0}, toldWalk{true, 0, 1, "1,2"}},
		{"3 0,1,0 0-1-0 0-1-1 0-2-0 @ 0,1", []int{0, 1, 0}, noWalk},
		// Colours are taken on the way, each once and for ever.
		{keys, []int{0}, toldWalk{true, 0, 2, "1,3"}},
		{keys, []int{0, 1}, toldWalk{true, 1, 3, "0,3"}},
		{keys, []int{0, 3}, toldWalk{true, 3, 6, "1"}},
		{keys, []int{0, 1, 0}, toldWalk{true, 0, 3, "1,3"}},
		{keys, []int{0, 1, 0, 2}, toldWalk{true, 2, 3, ""}},
		{keys, []int{0, 1, 3, 1, 0}, toldWalk{true, 0, 7, "1,2,3"}},
		{keys, []int{0, 1, 3, 1, 0, 2}, toldWalk{true, 2, 7, "4"}},
		{keys, []int{0, 1, 3, 1, 0, 2, 4, 2, 4}, toldWalk{true, 4, 7, "2"}},
		// A door that is closed, that is not there, or a node that stays the same.
		{keys, []int{0, 2}, noWalk},
		{keys, []int{0, 1, 0, 2, 4}, noWalk},
		{keys, []int{0, 1, 0, 2, 0}, noWalk},
		{keys, []int{0, 3, 0}, noWalk},
		{keys, []int{0, 4}, noWalk},
		{keys, []int{0, 1, 2}, noWalk},
		{keys, []int{0, 0}, noWalk},
		{keys, []int{0, 1, 1}, noWalk},
		// Lists that do not begin at node 0, and numbers that are no nodes.
		{keys, nil, noWalk},
		{keys, []int{}, noWalk},
		{keys, []int{1}, noWalk},
		{keys, []int{1, 0}, noWalk},
		{keys, []int{-1}, noWalk},
		{keys, []int{5}, noWalk},
		{keys, []int{0, 5}, noWalk},
		{keys, []int{0, -1}, noWalk},
		{keys, []int{0, 12}, noWalk},
		{keys, []int{0, 64}, noWalk},
		{keys, []int{0, math.MaxInt}, noWalk},
		{keys, []int{0, math.MinInt, 0}, noWalk},
		{keys, []int{math.MaxInt, 0}, noWalk},
		{keys, []int{math.MinInt}, noWalk},
	} {
		trap := trapOf(c.text)
		if plain := plainWalk(trap, plainGood(trap, plainNexts(trap)), c.list); plain != c.want {
			t.Errorf("the plain walk %v of %s is %+v; want %+v", c.list, c.text, plain, c.want)
		}
		checkTrapWalk(t, trap, c.list, c.want)
	}
	long := append(slices.Repeat([]int{0, 2}, 5000), 0)
	checkTrapWalk(t, trapOf(one), long, toldWalk{true, 0, 0, "2"})
	checkTrapWalk(t, trapOf(one), append(long, 1), toldWalk{true, 1, 0, ""})
	checkTrapWalk(t, trapOf(one), append(long, 0), noWalk)
}

func TestTrapWalksOfAllLists(t *testing.T) {
	walks := 0
	for _, text := range []string{
		"1 0", "1 63", "2 0,0", "2 1,0 0-1-1 @ 0", "3 0,0,0 0-1-0 0-2-0 @ 0", "3 0,1,0 0-1-0 0-1-1 0-2-0 @ 0", "3 0,1,0 0-1-0 0-2-1 1-2-1 @ 2",
		"4 0,1,2,0 0-1-0 0-2-1 1-2-2 1-3-3 @ 1,3", "4 0,0,1,0 0-1-0 0-2-0 1-3-1 @ 0", "4 0,0,2,0 0-1-0 0-3-0 1-2-0 @ 0,1,2",
		"4 1,0,0,0 0-1-0 0-2-0 0-3-1 1-2-0 1-3-0 @ 0,4",
	} {
		trap := trapOf(text)
		good := plainGood(trap, plainNexts(trap))
		lists(-1, trap.Maze.Size, 5, func(list []int) {
			want := plainWalk(trap, good, list)
			checkTrapWalk(t, trap, list, want)
			if want.is {
				walks++
			}
		})
	}
	if walks < 90 {
		t.Error("too few lists are walks:", walks)
	}
}

// trapWalks calls visit for every trap walk of at most size nodes.
func trapWalks(trap impl.Trap, size int, visit func(walk []int, end point)) {
	var extend func(walk []int, end point)
	extend = func(walk []int, end point) {
		visit(walk, end)
		if len(walk) < size {
			for _, next := range plainTrapNext(trap, end) {
				extend(append(slices.Clone(walk), next[0]), next)
			}
		}
	}
	extend([]int{0}, plainStart(trap.Maze))
}

// randomTrap returns a Trap with a Maze of one of several kinds, of whose doors none, one, some, most
// or all are of one way.
func randomTrap(r *rand.Rand, mostNodes int, colours int) impl.Trap {
	size := 1 + r.Intn(mostNodes)
	trap := impl.Trap{}
	switch r.Intn(4) {
	case 0:
		trap.Maze = randomMaze(r, size, r.Intn(min(impl.MaxDoors, 3*size)+1), colours)
	case 1:
		trap.Maze = scatteredMaze(r, size, colours)
	default:
		trap.Maze = nearGoalMaze(r, size, colours)
	}
	chance := r.Intn(7)
	only := r.Intn(len(trap.Maze.Doors) + 1)
	for k := range trap.Maze.Doors {
		if chance > 4 && k == only || chance <= 4 && r.Intn(4) < chance {
			trap.OneWay = append(trap.OneWay, k)
		}
	}
	return trap
}

// nearGoalMaze returns a Maze whose goal is mostly near, while each other node is behind one before
// it, some of them by several doors.
func nearGoalMaze(r *rand.Rand, size int, colours int) impl.Maze {
	m := impl.Maze{Size: size}
	for x := range size {
		m.Keys = append(m.Keys, power2(r.Intn(colours))*min(1, r.Intn(3)))
		if x == 0 {
			continue
		}
		from := max(0, x-1-r.Intn(2))
		if x == size-1 {
			from = r.Intn(min(2, x))
		}
		for range 1 + r.Intn(4)/3 {
			m.Doors = append(m.Doors, [3]int{from, x, power2(r.Intn(colours)) * (r.Intn(5) / 3)})
		}
	}
	m.Doors = sortedDoors(m.Doors)
	return m
}

func manyTraps(count int) []impl.Trap {
	r := newRandom()
	traps := []impl.Trap{}
	for range count {
		traps = append(traps, randomTrap(r, 6, 1+r.Intn(3)))
	}
	for range count / 8 {
		traps = append(traps, randomTrap(r, impl.MaxNodes, 1+r.Intn(impl.MaxColours)))
	}
	return traps
}

// kindOf tells of what kind a Trap is, so that there are enough of each kind.
func kindOf(trap impl.Trap, want toldTrap) []string {
	kinds := []string{}
	switch {
	case want.lost == 0:
		kinds = append(kinds, "none is lost")
	case want.lost == want.met:
		kinds = append(kinds, "all are lost")
	default:
		kinds = append(kinds, fmt.Sprint("lost behind ", min(4, strings.Count(want.walk, ","))))
	}
	switch {
	case len(trap.Maze.Doors) == 0:
	case len(trap.OneWay) == 0:
		kinds = append(kinds, "no doors of one way")
	case len(trap.OneWay) == len(trap.Maze.Doors):
		kinds = append(kinds, "all doors of one way")
	}
	free := map[int]bool{}
	if want.free != "" {
		for _, set := range strings.Split(want.free, ",") {
			free[numberOf(set)] = true
		}
	}
	for set := range 64 {
		for c := range 6 {
			if free[set] && !free[set|power2(c)] {
				return append(kinds, "lost with more colours")
			}
		}
	}
	if len(free) > 0 && len(free) < 64 {
		kinds = append(kinds, "lost with fewer colours only")
	}
	return kinds
}

func TestManyTraps(t *testing.T) {
	seen := map[string]int{}
	for _, trap := range manyTraps(2500) {
		want := plainTrap(trap)
		checkTrap(t, trap, want)
		for _, kind := range kindOf(trap, want) {
			seen[kind]++
		}
	}
	for _, kind := range []string{
		"none is lost", "all are lost", "lost behind 1", "lost behind 2", "lost behind 3", "lost behind 4", "no doors of one way", "all doors of one way",
		"lost with more colours", "lost with fewer colours only",
	} {
		if seen[kind] < 15 {
			t.Error("too few traps:", kind, seen[kind])
		}
	}
}

func TestStatesOfManyTraps(t *testing.T) {
	for _, trap := range manyTraps(80) {
		checkTrapStates(t, trap)
	}
}

// All trap walks of few nodes are listed here, so that nothing is assumed of states.
func TestTrapsAmongAllTrapWalks(t *testing.T) {
	const longest = 6
	lost := 0
	for _, trap := range manyTraps(400) {
		if trap.Maze.Size > 5 {
			continue
		}
		good := plainGood(trap, plainNexts(trap))
		var first []int
		won := longest
		trapWalks(trap, longest, func(walk []int, end point) {
			if len(walk) < longest {
				checkTrapWalk(t, trap, walk, plainWalk(trap, good, walk))
			}
			// The walks of a length are visited in order, so one that is no shorter comes later.
			if !good[end] && (first == nil || len(walk) < len(first)) {
				first = slices.Clone(walk)
			}
			if end[0] == trap.Maze.Size-1 {
				won = min(won, len(walk)-1)
			}
		})
		walk, ok := impl.FirstToLose(trap)
		if first != nil {
			wantList(t, "FirstToLose of "+trapText(trap), walk, ok, first)
			lost++
		} else if ok && len(walk) <= longest {
			t.Error("FirstToLose of", trapText(trap), walk)
		}
		if steps, ok := impl.FewestToWin(trap); won < longest && (steps != won || !ok) || won == longest && ok && steps < longest {
			t.Error("FewestToWin of", trapText(trap), steps, ok, won)
		}
	}
	if lost < 100 {
		t.Error("too few walks lead to lost states:", lost)
	}
}

// Promise 11.
func TestAllOrNoStatesAreLostWithoutDoorsOfOneWay(t *testing.T) {
	none, all, changed := 0, 0, 0
	for _, trap := range manyTraps(2000) {
		both, ok := impl.BothWays(trap)
		wantTrap(t, "BothWays of "+trapText(trap), both, ok, textOf(trap.Maze))
		met, lost, ok := impl.CountMet(both)
		if !ok || met < 1 || lost != 0 && lost != met {
			t.Fatal("CountMet of", trapText(both), met, lost, ok)
		}
		if won := plainWins(trap.Maze); won != (lost == 0) {
			t.Fatal("CountMet of", trapText(both), met, lost, "; can be won:", won)
		}
		if lost == 0 {
			none++
		} else {
			all++
		}
		if _, before, _ := impl.CountMet(trap); before > 0 && lost == 0 {
			changed++
		}
	}
	if none < 600 || all < 300 || changed < 200 {
		t.Error("too few traps:", none, all, changed)
	}
}

// Without doors of one way the states that are met are those of chapter 4, and each of them is good
// exactly if the first one is.
func TestTrapsWithoutDoorsOfOneWay(t *testing.T) {
	for _, m := range append(manyMazes(), farMaze(), wideMaze()) {
		trap := impl.Trap{Maze: m}
		states, _ := impl.StatesOf(m)
		met, lost, ok := impl.CountMet(trap)
		steps, can := impl.FewestSteps(m)
		want := 0
		if !can {
			want = states
		}
		if !ok || met != states || lost != want {
			t.Fatal("CountMet of", textOf(m), met, lost, ok, "; states", states, want)
		}
		win, winOK := impl.FewestToWin(trap)
		wantInt(t, "FewestToWin of "+textOf(m), win, winOK, steps, can)
		lose, loseOK := impl.FewestToLose(trap)
		wantInt(t, "FewestToLose of "+textOf(m), lose, loseOK, 0, !can)
		walk, walkOK := impl.FirstToLose(trap)
		if walkOK == can || walkOK && !slices.Equal(walk, []int{0}) || !walkOK && len(walk) != 0 {
			t.Fatal("FirstToLose of", textOf(m), walk, walkOK)
		}
		for p := range plainMetWalks(plainStart(m), plainNexts(trap)) {
			if good, ok := impl.IsGood(trap, p[0], p[1]); good != can || !ok {
				t.Fatal("IsGood of", textOf(m), p, good, ok)
			}
		}
	}
}

// The guarantee of the chapter: a good state has a step to a good one, or is at the goal.
func TestGoodStatesHaveGoodSteps(t *testing.T) {
	good, lost := 0, 0
	for _, trap := range manyTraps(120) {
		isGood := map[point]bool{}
		for x := range trap.Maze.Size {
			for set := range 64 {
				isGood[point{x, set}], _ = impl.IsGood(trap, x, set)
			}
		}
		for p, is := range isGood {
			steps, ok := impl.StepsFrom(trap, p[0], p[1])
			leads := p[0] == trap.Maze.Size-1
			for _, y := range steps {
				leads = leads || isGood[point{y, p[1] | trap.Maze.Keys[y]}]
			}
			if !ok || leads != is {
				t.Fatal("IsGood of", trapText(trap), p, is, steps, ok)
			}
			if is {
				good++
			} else {
				lost++
			}
		}
	}
	if good < 5000 || lost < 5000 {
		t.Error("too few states are good or lost:", good, lost)
	}
}

// The guarantee of the chapter: a trap walk is a key walk, which takes the same colours.
func TestTrapWalksAreKeyWalks(t *testing.T) {
	walks := 0
	for _, trap := range manyTraps(900) {
		trapWalks(trap, 4, func(walk []int, end point) {
			walks++
			x, set, ok := impl.StateBehind(trap, walk)
			taken, keyOK := impl.TakenOn(trap.Maze, walk)
			if !ok || !keyOK || x != walk[len(walk)-1] || set != taken[len(walk)-1] || x != end[0] || set != end[1] {
				t.Fatal("StateBehind of", trapText(trap), walk, x, set, ok, taken, keyOK)
			}
			good, _ := impl.IsGood(trap, x, set)
			steps, stepsOK := impl.GoodSteps(trap, walk)
			if !stepsOK || !good && len(steps) > 0 || good && len(steps) == 0 && x != trap.Maze.Size-1 {
				t.Fatal("GoodSteps of", trapText(trap), walk, good, steps, stepsOK)
			}
		})
		if walk, ok := impl.FirstToLose(trap); ok {
			x, set, walkOK := impl.StateBehind(trap, walk)
			good, goodOK := impl.IsGood(trap, x, set)
			if !walkOK || good || !goodOK {
				t.Fatal("FirstToLose of", trapText(trap), walk, walkOK, good, goodOK)
			}
		}
	}
	if walks < 3000 {
		t.Error("too few trap walks:", walks)
	}
}

// Colours at first are the same as keys of these colours at node 0.
func TestColoursAtFirstAreKeysAtFirst(t *testing.T) {
	for _, trap := range manyTraps(120) {
		free, ok := impl.TrapFreeSets(trap)
		if !ok {
			t.Fatal("TrapFreeSets of", trapText(trap), "fails")
		}
		want := setsWhere(func(set int) bool {
			_, lost, _ := impl.CountMet(impl.Trap{Maze: withFirst(trap.Maze, set), OneWay: trap.OneWay})
			return lost == 0
		})
		if commas(free) != want {
			t.Fatal("TrapFreeSets of", trapText(trap), free, "; want", want)
		}
	}
}

// farTrap returns a Trap whose only lost state is as far as the goal of farMaze, while its goal is
// near. It is the node 2 there, and the goal is what was node 2 before.
func farTrap() impl.Trap {
	trap := impl.Trap{Maze: plainNumbered(farMaze(), swapped, same)}
	for k, d := range trap.Maze.Doors {
		if d == [3]int{1, 2, 16} {
			trap.OneWay = append(trap.OneWay, k)
		}
	}
	return trap
}

// swapped exchanges the nodes 2 and 11.
func swapped(x int) int {
	switch x {
	case 2:
		return 11
	case 11:
		return 2
	}
	return x
}

func TestTrapsUpToTheLimits(t *testing.T) {
	far := farTrap()
	steps, ok := impl.FewestToLose(far)
	wantInt(t, "FewestToLose of a far trap", steps, ok, 36, true)
	walk, ok := impl.FirstToLose(far)
	way := []int{0, 1, 2, 3, 4, 5, 8, 5, 4, 3, 2, 1, 6, 1, 2, 3, 4, 5, 9, 5, 4, 3, 2, 1, 7, 1, 2, 3, 4, 5, 10, 5, 4, 3, 2, 1, 11}
	for i, x := range way {
		way[i] = swapped(x)
	}
	wantList(t, "FirstToLose of a far trap", walk, ok, way)
	states, ok := impl.LostStates(far)
	if pairsText(states) != "2-31" || !ok {
		t.Error("LostStates of a far trap", states, ok)
	}
	checkTrap(t, far, plainTrap(far))

	allWays := []int{}
	for k := range impl.MaxDoors {
		allWays = append(allWays, k)
	}
	for _, m := range []impl.Maze{fullMaze(), wideMaze(), plainNumbered(wideMaze(), swapped, same)} {
		if len(m.Doors) != impl.MaxDoors {
			t.Fatal("a Maze of too few doors:", textOf(m))
		}
		for from := range 4 {
			trap := impl.Trap{Maze: m, OneWay: allWays[from*10:]}
			checkTrap(t, trap, plainTrap(trap))
			checkTrapStates(t, trap)
		}
	}
}

func TestBothWaysOfGivenTraps(t *testing.T) {
	for _, c := range [][2]string{
		{"1 5", "1 5"}, {"2 0,1 0-1-2", "2 0,1 0-1-2"}, {"2 0,1 0-1-2 @ 0", "2 0,1 0-1-2"},
		{"3 0,1,2 0-1-0 0-1-1 0-2-0 @ 0,2", "3 0,1,2 0-1-0 0-1-1 0-2-0"}, {"3 0,1,2 0-1-0 0-1-1 0-2-0 @ 0,1,2", "3 0,1,2 0-1-0 0-1-1 0-2-0"},
	} {
		both, ok := impl.BothWays(trapOf(c[0]))
		wantTrap(t, "BothWays of "+c[0], both, ok, c[1])
	}
}

func TestTurnDoorOfGivenTraps(t *testing.T) {
	const maze = "3 0,1,2 0-1-0 0-1-1 0-2-0 1-2-4"
	for _, c := range []struct {
		text string
		k    int
		want string
	}{
		{maze, 0, maze + " @ 0"}, {maze, 2, maze + " @ 2"}, {maze, 3, maze + " @ 3"},
		{maze + " @ 0", 0, maze}, {maze + " @ 3", 3, maze},
		// The places still ascend, wherever the new one is.
		{maze + " @ 2", 0, maze + " @ 0,2"}, {maze + " @ 0,3", 1, maze + " @ 0,1,3"}, {maze + " @ 0,2", 3, maze + " @ 0,2,3"},
		{maze + " @ 1,2,3", 0, maze + " @ 0,1,2,3"},
		{maze + " @ 0,1,2,3", 0, maze + " @ 1,2,3"}, {maze + " @ 0,1,2,3", 2, maze + " @ 0,1,3"}, {maze + " @ 0,1,2,3", 3, maze + " @ 0,1,2"},
		{maze, -1, noTrap}, {maze, 4, noTrap}, {maze + " @ 0,1,2,3", 4, noTrap}, {maze + " @ 0", -1, noTrap}, {maze, 30, noTrap},
		{"1 0", 0, noTrap}, {"2 0,0", 0, noTrap}, {"2 0,0 0-1-0", 1, noTrap}, {"2 0,0 0-1-0", 0, "2 0,0 0-1-0 @ 0"},
	} {
		turned, ok := impl.TurnDoor(trapOf(c.text), c.k)
		wantTrap(t, fmt.Sprint("TurnDoor of ", c.text, ", ", c.k), turned, ok, c.want)
	}
	for _, k := range noNumbers {
		turned, ok := impl.TurnDoor(trapOf(maze+" @ 0,3"), k)
		wantTrap(t, fmt.Sprint("TurnDoor of ", k), turned, ok, noTrap)
	}
}

func TestTurnDoorOfManyTraps(t *testing.T) {
	for _, trap := range manyTraps(400) {
		for k := -1; k <= len(trap.Maze.Doors); k++ {
			want := noTrap
			if k >= 0 && k < len(trap.Maze.Doors) {
				plain := impl.Trap{Maze: trap.Maze}
				for place := range trap.Maze.Doors {
					if slices.Contains(trap.OneWay, place) != (place == k) {
						plain.OneWay = append(plain.OneWay, place)
					}
				}
				want = trapText(plain)
			}
			turned, ok := impl.TurnDoor(trap, k)
			wantTrap(t, fmt.Sprint("TurnDoor of ", trapText(trap), ", ", k), turned, ok, want)
			if ok {
				back, ok := impl.TurnDoor(turned, k)
				wantTrap(t, fmt.Sprint("TurnDoor back of ", trapText(turned), ", ", k), back, ok, trapText(trap))
			}
		}
	}
}

// A door that is turned changes what is lost, and one that is turned back does not.
func TestTurnedDoorsAreOfOneWay(t *testing.T) {
	trap := trapOf("3 0,0,0 0-1-0 0-2-0")
	checkTrap(t, trap, toldTrap{3, 0, "", none, "1", allFree})
	trap, one := impl.TurnDoor(trap, 0)
	checkTrap(t, trap, toldTrap{3, 1, "1-0", "0,1", "1", ""})
	trap, two := impl.TurnDoor(trap, 1)
	checkTrap(t, trap, toldTrap{3, 1, "1-0", "0,1", "1", ""})
	trap, three := impl.TurnDoor(trap, 0)
	checkTrap(t, trap, toldTrap{3, 0, "", none, "1", allFree})
	if !one || !two || !three {
		t.Error("TurnDoor fails", one, two, three)
	}
}

// oddTraps returns Traps that are not valid, each for one reason.
func oddTraps() []impl.Trap {
	odd := []impl.Trap{{}, {OneWay: []int{}}, {OneWay: []int{0}}}
	for _, text := range []string{
		"1 0 @ 0", "2 0,0 @ 0", "2 0,0 @ -1", "2 0,0 0-1-0 @ 1", "2 0,0 0-1-0 @ -1", "2 0,0 0-1-0 @ 0,1", "2 0,0 0-1-0 @ -1,0", "2 0,0 0-1-0 @ 0,0",
		"2 0,0 0-1-0 0-1-1 @ 1,0", "2 0,0 0-1-0 0-1-1 @ 0,0", "2 0,0 0-1-0 0-1-1 @ 1,1", "2 0,0 0-1-0 0-1-1 @ 0,2", "2 0,0 0-1-0 0-1-1 @ 0,1,2",
		"2 0,0 0-1-0 0-1-1 @ 0,1,1", "2 0,0 0-1-0 0-1-1 @ 0,0,1", "3 0,0,0 0-1-0 0-2-0 1-2-0 @ 0,2,1", "3 0,0,0 0-1-0 0-2-0 1-2-0 @ 1,0,2",
		"3 0,0,0 0-1-0 0-2-0 1-2-0 @ 3", "3 0,0,0 0-1-0 0-2-0 1-2-0 @ 0,1,2,3", "2 0,0 0-1-0 @ 9223372036854775807", "2 0,0 0-1-0 @ -9223372036854775808",
		"2 0,0 0-1-0 @ 0,9223372036854775807", "2 0,0 0-1-0 @ -9223372036854775808,0",
	} {
		odd = append(odd, trapOf(text))
	}
	for _, m := range oddMazes() {
		odd = append(odd, impl.Trap{Maze: m}, impl.Trap{Maze: m, OneWay: []int{0}})
	}
	return append(odd, impl.Trap{Maze: fullMaze(), OneWay: []int{30}}, impl.Trap{Maze: fullMaze(), OneWay: make([]int, 1000)})
}

func TestIsTrapOfAllPlaces(t *testing.T) {
	for count, m := range []impl.Maze{mazeOf("3 0,0,0"), mazeOf("3 0,0,0 0-1-0"), mazeOf("3 0,0,0 0-1-0 0-2-0"), mazeOf("3 0,0,0 0-1-0 0-2-0 1-2-0")} {
		valid := 0
		lists(-1, 4, 5, func(places []int) {
			trap := impl.Trap{Maze: m, OneWay: places}
			if got := impl.IsTrap(trap); got != plainIsTrap(trap) {
				t.Error("IsTrap of", trapText(trap), got)
			}
			if plainIsTrap(trap) {
				valid++
			}
		})
		if valid != power2(count) {
			t.Error("Traps that are valid:", valid)
		}
	}
	for _, text := range []string{"1 0", "2 0,0 0-1-0 @ 0", "3 0,0,0 0-1-0 0-2-0 1-2-0 @ 0,2", "3 0,0,0 0-1-0 0-2-0 1-2-0 @ 0,1,2"} {
		if !impl.IsTrap(trapOf(text)) {
			t.Error("IsTrap of", text, "is false")
		}
	}
}

// checkNoState checks that the functions of a single state fail.
func checkNoState(t *testing.T, trap impl.Trap, x int, set int) {
	t.Helper()
	name := fmt.Sprintf(" of %s, %d, %d", shorten(trapText(trap)), x, set)
	steps, ok := impl.StepsFrom(trap, x, set)
	wantNoList(t, "StepsFrom"+name, steps, ok)
	if good, ok := impl.IsGood(trap, x, set); good || ok {
		t.Error("IsGood"+name, good, ok)
	}
}

func TestFunctionsOfNoTrap(t *testing.T) {
	for _, trap := range oddTraps() {
		name := shorten(trapText(trap))
		if impl.IsTrap(trap) || plainIsTrap(trap) {
			t.Error("IsTrap of", name, "is true")
		}
		if met, lost, ok := impl.CountMet(trap); met != 0 || lost != 0 || ok {
			t.Error("CountMet of", name, met, lost, ok)
		}
		if states, ok := impl.LostStates(trap); len(states) != 0 || ok {
			t.Error("LostStates of", name, states, ok)
		}
		steps, ok := impl.FewestToLose(trap)
		wantInt(t, "FewestToLose of "+name, steps, ok, 0, false)
		steps, ok = impl.FewestToWin(trap)
		wantInt(t, "FewestToWin of "+name, steps, ok, 0, false)
		list, ok := impl.FirstToLose(trap)
		wantNoList(t, "FirstToLose of "+name, list, ok)
		list, ok = impl.TrapFreeSets(trap)
		wantNoList(t, "TrapFreeSets of "+name, list, ok)
		made, ok := impl.BothWays(trap)
		wantTrap(t, "BothWays of "+name, made, ok, noTrap)
		for k := -1; k < 4; k++ {
			made, ok = impl.TurnDoor(trap, k)
			wantTrap(t, "TurnDoor of "+name, made, ok, noTrap)
		}
		for _, walk := range [][]int{nil, {0}, {0, 1}, {0, 1, 0}} {
			checkNoTrapWalk(t, trap, walk)
		}
		for x := range 3 {
			checkNoState(t, trap, x, 0)
			checkNoState(t, trap, x, 63)
		}
	}
}

// checkNoTrapWalk checks that the functions of a list fail, as they do for no Trap.
func checkNoTrapWalk(t *testing.T, trap impl.Trap, walk []int) {
	t.Helper()
	name := fmt.Sprint(" of ", shorten(trapText(trap)), ", ", walk)
	if is, ok := impl.IsTrapWalk(trap, walk); is || ok {
		t.Error("IsTrapWalk"+name, is, ok)
	}
	if x, set, ok := impl.StateBehind(trap, walk); x != 0 || set != 0 || ok {
		t.Error("StateBehind"+name, x, set, ok)
	}
	steps, ok := impl.GoodSteps(trap, walk)
	wantNoList(t, "GoodSteps"+name, steps, ok)
}

// A node or a set that is one too great or negative fails like one that is far away.
func TestFunctionsOfNoStateOfTraps(t *testing.T) {
	for _, text := range []string{"1 0", "1 63", "2 63,63 0-1-0 @ 0", "3 0,0,0 0-1-0 0-2-0 @ 0"} {
		trap := trapOf(text)
		for _, set := range append(noNumbers, 65, 127, 128) {
			for x := range trap.Maze.Size {
				checkNoState(t, trap, x, set)
			}
		}
		for _, x := range append(noNumbers, trap.Maze.Size, trap.Maze.Size+1, 12, 13) {
			for _, set := range []int{0, 1, 63, 64, -1} {
				checkNoState(t, trap, x, set)
			}
		}
	}
}

func TestTrapsAreTotal(t *testing.T) {
	traps := append(oddTraps(), trapOf("1 0"), trapOf("1 63"), trapOf("2 0,1 0-1-1 @ 0"), trapOf("3 0,0,0 0-1-0 0-2-0 @ 0"), trapOf("3 0,1,0 0-1-0 0-1-1 0-2-0 @ 0,1"),
		farTrap(), impl.Trap{Maze: wideMaze(), OneWay: []int{0, 29}}, impl.Trap{Maze: fullMaze()})
	numbers := []int{-1, 0, 1, 2, 29, 30, 63, 64, math.MaxInt, math.MinInt}
	walks := [][]int{nil, {}, {0}, {0, 1}, {0, 1, 0}, {0, 2, 0, 1}, {1}, {12}, {0, 12}, {0, -1}, {math.MinInt}, {0, math.MaxInt}, make([]int, 100)}
	checkTotal(t, []named{
		{"IsTrap", impl.IsTrap}, {"StepsFrom", impl.StepsFrom}, {"IsTrapWalk", impl.IsTrapWalk}, {"StateBehind", impl.StateBehind}, {"IsGood", impl.IsGood},
		{"CountMet", impl.CountMet}, {"LostStates", impl.LostStates}, {"GoodSteps", impl.GoodSteps}, {"FewestToLose", impl.FewestToLose},
		{"FirstToLose", impl.FirstToLose}, {"FewestToWin", impl.FewestToWin}, {"TrapFreeSets", impl.TrapFreeSets}, {"BothWays", impl.BothWays},
		{"TurnDoor", impl.TurnDoor},
	}, []any{traps, numbers, walks})
}
