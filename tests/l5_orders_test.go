package tests

import (
	"fmt"
	"math"
	"slices"
	"strings"
	"testing"

	"loop.example/g01158/impl"
)

// plainFollowers returns the nodes that can be entered behind some others, in ascending order.
func plainFollowers(m impl.Maze, before []int) []int {
	set := 0
	for _, x := range before {
		set |= m.Keys[x]
	}
	nodes := []int{}
	for y := range m.Size {
		isOpen := func(x int) bool { return plainIsOpen(m, x, y, set) }
		if !slices.Contains(before, y) && slices.ContainsFunc(before, isOpen) {
			nodes = append(nodes, y)
		}
	}
	return nodes
}

func plainIsEntryOrder(m impl.Maze, list []int) bool {
	for i, x := range list {
		if i == 0 && x != 0 || i > 0 && !slices.Contains(plainFollowers(m, list[:i]), x) {
			return false
		}
	}
	return len(list) > 0
}

// plainEntryOrders returns all entry orders, in lexicographic order.
func plainEntryOrders(m impl.Maze) [][]int {
	all := [][]int{}
	var extend func(order []int)
	extend = func(order []int) {
		all = append(all, order)
		for _, y := range plainFollowers(m, order) {
			extend(append(slices.Clone(order), y))
		}
	}
	extend([]int{0})
	return all
}

func sorted(list []int) []int {
	made := slices.Clone(list)
	slices.Sort(made)
	return made
}

// inSetOrder returns lists by their lengths and then lexicographically, each one once.
func inSetOrder(all [][]int) [][]int {
	made := slices.Clone(all)
	slices.SortFunc(made, func(a, b []int) int {
		if len(a) != len(b) {
			return len(a) - len(b)
		}
		return slices.Compare(a, b)
	})
	return slices.CompactFunc(made, slices.Equal)
}

// setsOf returns the sets of the nodes of some lists, in order.
func setsOf(all [][]int) [][]int {
	sets := [][]int{}
	for _, list := range all {
		sets = append(sets, sorted(list))
	}
	return inSetOrder(sets)
}

func listsText(all [][]int, sep string) string {
	texts := []string{}
	for _, list := range all {
		texts = append(texts, commas(list))
	}
	return strings.Join(texts, sep)
}

// orders is what the functions of the chapter tell of a Maze alone and of its nodes. Lists have a
// comma between their numbers and a space between each other. What is told of single nodes has a
// bar in between, and a node that can never be entered has the paths "none" and the place -1.
type orders struct {
	first, last      string
	complete, count  int
	sets             string
	paths            string
	earliest, latest string
	before           string
}

// tooMany is what orders has instead of the entry sets of more than eight nodes.
const tooMany = "too many"

// toldOrders returns what the package tells.
func toldOrders(t *testing.T, m impl.Maze) orders {
	t.Helper()
	name := " of " + textOf(m)
	first, firstOK := impl.FirstEntryOrder(m)
	last, lastOK := impl.LastEntryOrder(m)
	complete, completeOK := impl.CountEntryOrders(m)
	count, countOK := impl.CountEntrySets(m)
	if !firstOK || !lastOK || !completeOK || !countOK {
		t.Fatal("orders"+name, firstOK, lastOK, completeOK, countOK)
	}
	sets, ok := impl.EntrySets(m)
	if ok != (m.Size <= 8) || !ok && len(sets) != 0 {
		t.Fatal("EntrySets"+name, sets, ok)
	}
	got := orders{first: commas(first), last: commas(last), complete: complete, count: count, sets: tooMany}
	if ok {
		got.sets = listsText(sets, " ")
	}
	paths, befores, earliest, latest := []string{}, [][]int{}, []int{}, []int{}
	for x := range m.Size {
		text, early, late := toldNode(t, m, x)
		paths, earliest, latest = append(paths, text), append(earliest, early), append(latest, late)
		befores = append(befores, []int{})
		for y := range m.Size {
			precedes, ok := impl.Precedes(m, y, x)
			if !ok {
				t.Fatal("Precedes"+name, y, x)
			}
			if precedes {
				befores[x] = append(befores[x], y)
			}
		}
	}
	got.paths, got.before = strings.Join(paths, "|"), listsText(befores, "|")
	got.earliest, got.latest = commas(earliest), commas(latest)
	return got
}

// toldNode returns the paths of a node and its places.
func toldNode(t *testing.T, m impl.Maze, x int) (text string, early int, late int) {
	t.Helper()
	paths, ok := impl.PathsOf(m, x)
	early, earlyOK := impl.EarliestPlace(m, x)
	late, lateOK := impl.LatestPlace(m, x)
	if earlyOK != ok || lateOK != ok || !ok && (len(paths) != 0 || early != 0 || late != 0) {
		t.Fatal("paths and places of", textOf(m), x, paths, ok, early, earlyOK, late, lateOK)
	}
	if !ok {
		return "none", -1, -1
	}
	return listsText(paths, " "), early, late
}

func checkOrders(t *testing.T, m impl.Maze, want orders) {
	t.Helper()
	if got := toldOrders(t, m); got != want {
		t.Errorf("orders of %s = %+v; want %+v", textOf(m), got, want)
	}
}

func TestOrdersOfGivenMazes(t *testing.T) {
	for _, c := range []struct {
		text string
		want orders
	}{
		// A Maze of one node, and Mazes without doors.
		{"1 0", orders{"0", "0", 1, 1, "0", "0", "0", "0", ""}},
		{"1 63", orders{"0", "0", 1, 1, "0", "0", "0", "0", ""}},
		{"2 0,0", orders{"0", "0", 1, 1, "0", "0|none", "0,-1", "0,-1", "|"}},
		{"3 63,63,63", orders{"0", "0", 1, 1, "0", "0|none|none", "0,-1,-1", "0,-1,-1", "||"}},
		// One door, open or not.
		{"2 0,0 0-1-0", orders{"0,1", "0,1", 1, 2, "0 0,1", "0|0,1", "0,1", "0,1", "|0"}},
		{"2 1,0 0-1-1", orders{"0,1", "0,1", 1, 2, "0 0,1", "0|0,1", "0,1", "0,1", "|0"}},
		{"2 63,0 0-1-63", orders{"0,1", "0,1", 1, 2, "0 0,1", "0|0,1", "0,1", "0,1", "|0"}},
		{"2 31,32 0-1-63", orders{"0", "0", 1, 1, "0", "0|none", "0,-1", "0,-1", "|"}},
		// A key that lies behind what it opens, and one that lies behind another door.
		{"2 0,1 0-1-1", orders{"0", "0", 1, 1, "0", "0|none", "0,-1", "0,-1", "|"}},
		{"4 0,0,1,0 0-1-1 1-2-0 1-3-0", orders{"0", "0", 1, 1, "0", "0|none|none|none", "0,-1,-1,-1", "0,-1,-1,-1", "|||"}},
		{"3 0,0,1 0-1-1 0-2-0", orders{"0,2,1", "0,2,1", 1, 3, "0 0,2 0,1,2", "0|0,1,2|0,2", "0,2,1", "0,2,1", "|0,2|0"}},
		// Two nodes in any order; the place of each one depends on the other one.
		{"3 0,0,0 0-1-0 0-2-0", orders{"0,1,2", "0,2,1", 2, 4, "0 0,1 0,2 0,1,2", "0|0,1|0,2", "0,1,1", "0,2,2", "|0|0"}},
		{"3 0,0,0 0-1-0 0-2-0 1-2-0", orders{"0,1,2", "0,2,1", 2, 4, "0 0,1 0,2 0,1,2", "0|0,1|0,2", "0,1,1", "0,2,2", "|0|0"}},
		// A node with two paths: through one node or through the other one.
		{"4 0,0,0,0 0-1-0 0-2-0 1-3-0 2-3-0", orders{
			"0,1,2,3", "0,2,3,1", 4, 7, "0 0,1 0,2 0,1,2 0,1,3 0,2,3 0,1,2,3", "0|0,1|0,2|0,1,3 0,2,3", "0,1,1,2", "0,3,3,3", "|0|0|0",
		}},
		// The path through more nodes counts, too: neither is a part of the other one.
		{"5 0,0,0,0,0 0-1-0 0-2-0 1-4-0 2-3-0 3-4-0", orders{
			"0,1,2,3,4", "0,2,3,4,1", 8, 11, "0 0,1 0,2 0,1,2 0,1,4 0,2,3 0,1,2,3 0,1,2,4 0,1,3,4 0,2,3,4 0,1,2,3,4",
			"0|0,1|0,2|0,2,3 0,1,3,4|0,1,4 0,2,3,4", "0,1,1,2,2", "0,4,4,4,4", "|0|0|0|0",
		}},
		// A key at a node beside the way precedes what it opens.
		{"4 0,1,0,0 0-1-0 0-2-0 2-3-1", orders{
			"0,1,2,3", "0,2,1,3", 2, 5, "0 0,1 0,2 0,1,2 0,1,2,3", "0|0,1|0,2|0,1,2,3", "0,1,1,3", "0,2,2,3", "|0|0|0,1,2",
		}},
		// The same key lies at two nodes, so that none of them precedes what it opens.
		{"4 0,1,1,0 0-1-0 0-2-0 0-3-1", orders{
			"0,1,2,3", "0,2,3,1", 4, 7, "0 0,1 0,2 0,1,2 0,1,3 0,2,3 0,1,2,3", "0|0,1|0,2|0,1,3 0,2,3", "0,1,1,2", "0,3,3,3", "|0|0|0",
		}},
		// Two doors between the same nodes, of which one needs the key that the other one saves.
		{"3 0,1,0 0-1-0 0-1-1 0-2-1 0-2-2", orders{"0,1,2", "0,1,2", 1, 3, "0 0,1 0,1,2", "0|0,1|0,1,2", "0,1,2", "0,1,2", "|0|0,1"}},
		{"4 0,1,2,0 0-1-0 0-2-0 0-3-1 0-3-2", orders{
			"0,1,2,3", "0,2,3,1", 4, 7, "0 0,1 0,2 0,1,2 0,1,3 0,2,3 0,1,2,3", "0|0,1|0,2|0,1,3 0,2,3", "0,1,1,2", "0,3,3,3", "|0|0|0",
		}},
		{"4 0,1,2,0 0-1-0 0-2-0 0-3-3", orders{
			"0,1,2,3", "0,2,1,3", 2, 5, "0 0,1 0,2 0,1,2 0,1,2,3", "0|0,1|0,2|0,1,2,3", "0,1,1,3", "0,2,2,3", "|0|0|0,1,2",
		}},
		// Nodes that can never be entered beside some that can; their keys count for nothing.
		{"5 0,0,1,63,0 0-1-0 0-2-2 1-4-0 2-3-0", orders{
			"0,1,4", "0,1,4", 1, 3, "0 0,1 0,1,4", "0|0,1|none|none|0,1,4", "0,1,-1,-1,2", "0,1,-1,-1,2", "|0|||0,1",
		}},
		// One goes on behind the goal, and comes to lesser nodes from greater ones.
		{"3 0,0,0 0-2-0 1-2-0", orders{"0,2,1", "0,2,1", 1, 3, "0 0,2 0,1,2", "0|0,1,2|0,2", "0,2,1", "0,2,1", "|0,2|0"}},
		{"4 0,1,2,0 0-1-0 0-2-1 2-3-2", orders{
			"0,1,2,3", "0,1,2,3", 1, 4, "0 0,1 0,1,2 0,1,2,3", "0|0,1|0,1,2|0,1,2,3", "0,1,2,3", "0,1,2,3", "|0|0,1|0,1,2",
		}},
	} {
		checkOrders(t, mazeOf(c.text), c.want)
	}
}

// plainOrders finds all by the words of the document among all entry orders.
func plainOrders(m impl.Maze) orders {
	all := plainEntryOrders(m)
	most := len(slices.MaxFunc(all, func(a, b []int) int { return len(a) - len(b) }))
	complete := slices.DeleteFunc(slices.Clone(all), func(order []int) bool { return len(order) < most })
	want := ordersOfSets(m, setsOf(all))
	want.first, want.last, want.complete = commas(complete[0]), commas(complete[len(complete)-1]), len(complete)
	befores, earliest, latest := [][]int{}, []int{}, []int{}
	for x := range m.Size {
		early, late := m.Size, -1
		before := []int{}
		for y := range m.Size {
			if y != x {
				before = append(before, y)
			}
		}
		for _, order := range all {
			place := slices.Index(order, x)
			if place < 0 {
				continue
			}
			early, late = min(early, place), max(late, place)
			before = slices.DeleteFunc(before, func(y int) bool { return !slices.Contains(order[:place], y) })
		}
		if late < 0 {
			early, before = -1, nil
		}
		earliest, latest, befores = append(earliest, early), append(latest, late), append(befores, before)
	}
	want.earliest, want.latest, want.before = commas(earliest), commas(latest), listsText(befores, "|")
	return want
}

// ordersOfSets returns what entry sets alone tell: their number, themselves, and the paths.
func ordersOfSets(m impl.Maze, sets [][]int) orders {
	told := orders{count: len(sets), sets: tooMany}
	if m.Size <= 8 {
		told.sets = listsText(sets, " ")
	}
	paths := []string{}
	for x := range m.Size {
		text := listsText(plainPaths(sets, x), " ")
		if text == "" {
			text = "none"
		}
		paths = append(paths, text)
	}
	told.paths = strings.Join(paths, "|")
	return told
}

// plainPaths returns those sets with a node of which no other set with it is a part.
func plainPaths(sets [][]int, x int) [][]int {
	with := slices.DeleteFunc(slices.Clone(sets), func(set []int) bool { return !slices.Contains(set, x) })
	paths := [][]int{}
	for _, set := range with {
		isLess := func(other []int) bool { return len(other) < len(set) && containsAll(set, other) }
		if !slices.ContainsFunc(with, isLess) {
			paths = append(paths, set)
		}
	}
	return paths
}

func TestOrdersOfManyMazes(t *testing.T) {
	several, beside, none := 0, 0, 0
	r := newRandom()
	mazes := append(someMazes(500), chain(4), chain(7))
	for range 150 {
		mazes = append(mazes, randomMaze(r, 6+r.Intn(2), 5+r.Intn(12), 1+r.Intn(4)))
	}
	for _, m := range mazes {
		want := plainOrders(m)
		checkOrders(t, m, want)
		for x, paths := range strings.Split(want.paths, "|") {
			if strings.Contains(paths, " ") {
				several++
			}
			if strings.Contains(paths, " ") && len(strings.Split(want.before, "|")[x]) > 1 {
				beside++
			}
			if paths == "none" {
				none++
			}
		}
	}
	if several < 100 || beside < 20 || none < 100 {
		t.Error("too few nodes with several paths, with several nodes in all of them, or with none:", several, beside, none)
	}
}

// plainCounts returns all entry sets, in order, and for each one, told by its commas, the number
// of its entry orders. It enters the nodes one by one, and keeps the sets only.
func plainCounts(m impl.Maze) ([][]int, map[string]int) {
	counts := map[string]int{"0": 1}
	sets := [][]int{}
	for layer := [][]int{{0}}; len(layer) > 0; {
		sets = append(sets, layer...)
		further := [][]int{}
		for _, set := range layer {
			for _, y := range plainFollowers(m, set) {
				next := sorted(append(slices.Clone(set), y))
				counts[commas(next)] += counts[commas(set)]
				further = append(further, next)
			}
		}
		layer = inSetOrder(further)
	}
	return inSetOrder(sets), counts
}

// plainLargeOrders finds by entry sets what plainOrders finds by orders, of which there may be too
// many to list them.
func plainLargeOrders(m impl.Maze) orders {
	sets, counts := plainCounts(m)
	want := ordersOfSets(m, sets)
	want.complete = counts[commas(sets[len(sets)-1])]
	first, last := []int{0}, []int{0}
	for range len(sets[len(sets)-1]) - 1 {
		first = append(first, slices.Min(plainFollowers(m, first)))
		last = append(last, slices.Max(plainFollowers(m, last)))
	}
	want.first, want.last = commas(first), commas(last)
	befores, earliest, latest := [][]int{}, []int{}, []int{}
	for x := range m.Size {
		early, late := -1, -1
		var before []int
		for _, set := range sets {
			if !slices.Contains(set, x) {
				continue
			}
			without := slices.DeleteFunc(slices.Clone(set), func(y int) bool { return y == x })
			if early < 0 {
				early, before = len(without), without
			}
			before = slices.DeleteFunc(before, func(y int) bool { return !slices.Contains(without, y) })
			if len(without) == 0 || counts[commas(without)] > 0 {
				late = max(late, len(without))
			}
		}
		earliest, latest, befores = append(earliest, early), append(latest, late), append(befores, before)
	}
	want.earliest, want.latest, want.before = commas(earliest), commas(latest), listsText(befores, "|")
	return want
}

func TestOrdersOfLargeMazes(t *testing.T) {
	full := 0
	mazes := append(largeMazes(60), wideMaze(), farMaze(), fullMaze(), star(8), star(9), row(8), row(9))
	r := newRandom()
	for range 40 {
		mazes = append(mazes, randomMaze(r, 8+r.Intn(5), 30, 2+r.Intn(2)))
	}
	for _, m := range mazes {
		if !plainIsMaze(m) {
			t.Fatal("no Maze", textOf(m))
		}
		want := plainLargeOrders(m)
		checkOrders(t, m, want)
		if want.count > 100 {
			full++
		}
	}
	if full < 20 {
		t.Error("too few Mazes with many entry sets:", full)
	}
}

// star returns a Maze with a door from node 0 to each other node.
func star(size int) impl.Maze {
	m := impl.Maze{Size: size, Keys: make([]int, size)}
	for x := 1; x < size; x++ {
		m.Doors = append(m.Doors, [3]int{0, x, 0})
	}
	return m
}

// row returns a Maze with a door from each node to the next one.
func row(size int) impl.Maze {
	m := impl.Maze{Size: size, Keys: make([]int, size)}
	for x := range size - 1 {
		m.Doors = append(m.Doors, [3]int{x, x + 1, 0})
	}
	return m
}

func TestOrdersUpToTheLimits(t *testing.T) {
	for _, c := range []struct {
		name        string
		m           impl.Maze
		first, last string
		complete    int
		count       int
	}{
		{"a star", star(12), "0,1,2,3,4,5,6,7,8,9,10,11", "0,11,10,9,8,7,6,5,4,3,2,1", 39916800, 2048},
		{"a row", row(12), "0,1,2,3,4,5,6,7,8,9,10,11", "0,1,2,3,4,5,6,7,8,9,10,11", 1, 12},
		{"a chain", chain(7), "0,1,2,3,4,5,6", "0,1,2,3,4,5,6", 1, 7},
		{"nodes without doors", impl.Maze{Size: 12, Keys: slices.Repeat([]int{63}, 12)}, "0", "0", 1, 1},
		// The colours of needs from 3 on lie nowhere, and the nodes behind them are never entered.
		{"many doors", fullMaze(), "0,1,2,3,4", "0,1,2,3,4", 1, 5},
	} {
		got := toldOrders(t, c.m)
		want := got
		want.first, want.last, want.complete, want.count = c.first, c.last, c.complete, c.count
		if got != want {
			t.Errorf("orders of %s = %+v; want %+v", c.name, got, want)
		}
	}
	got := toldOrders(t, star(12))
	if got.earliest != "0,1,1,1,1,1,1,1,1,1,1,1" || got.latest != "0,11,11,11,11,11,11,11,11,11,11,11" || got.before != "|0|0|0|0|0|0|0|0|0|0|0" {
		t.Error("places in a star", got)
	}
	wide := wideMaze()
	if len(wide.Doors) != impl.MaxDoors || wide.Size != impl.MaxNodes {
		t.Fatal("no Maze with all limits", textOf(wide))
	}
	// The goal is entered behind all keys, which lie at the nodes 5..10, and one of those before them.
	paths, ok := impl.PathsOf(wide, 11)
	wantLists(t, "PathsOf the goal of a wide Maze", paths, ok, "0,1,5,6,7,8,9,10,11 0,2,5,6,7,8,9,10,11 0,3,5,6,7,8,9,10,11")
	early, ok := impl.EarliestPlace(wide, 11)
	wantInt(t, "EarliestPlace of the goal of a wide Maze", early, ok, 8, true)
	late, ok := impl.LatestPlace(wide, 4)
	wantInt(t, "LatestPlace in a wide Maze", late, ok, 11, true)
	paths, ok = impl.PathsOf(wide, 4)
	if !ok || len(paths) != 3*6 || commas(paths[0]) != "0,1,4,5" || commas(paths[17]) != "0,3,4,10" {
		t.Error("PathsOf in a wide Maze", paths, ok)
	}
}

// wantLists checks lists that a function made without failing.
func wantLists(t *testing.T, name string, got [][]int, ok bool, want string) {
	t.Helper()
	if !ok || listsText(got, " ") != want {
		t.Errorf("%s = %v, %v; want %v, true", name, got, ok, want)
	}
}

func TestEntrySetsOfEightAndOfNineNodes(t *testing.T) {
	sets, ok := impl.EntrySets(row(8))
	wantLists(t, "EntrySets of a row", sets, ok, "0 0,1 0,1,2 0,1,2,3 0,1,2,3,4 0,1,2,3,4,5 0,1,2,3,4,5,6 0,1,2,3,4,5,6,7")
	sets, ok = impl.EntrySets(star(8))
	if !ok || len(sets) != 128 || commas(sets[7]) != "0,7" || commas(sets[8]) != "0,1,2" || commas(sets[28]) != "0,6,7" || commas(sets[29]) != "0,1,2,3" {
		t.Error("EntrySets of a star", sets, ok)
	}
	sets, ok = impl.EntrySets(impl.Maze{Size: 8, Keys: make([]int, 8)})
	wantLists(t, "EntrySets of eight nodes without doors", sets, ok, "0")
	for size := 9; size <= impl.MaxNodes; size++ {
		for _, m := range []impl.Maze{row(size), star(size), {Size: size, Keys: make([]int, size)}} {
			if sets, ok := impl.EntrySets(m); ok || len(sets) != 0 {
				t.Error("EntrySets of", textOf(m), sets, ok)
			}
			if _, ok := impl.CountEntrySets(m); !ok {
				t.Error("CountEntrySets of", textOf(m), "fails")
			}
		}
	}
}

// checkList checks IsEntryOrder and NextNodes for a list of any numbers.
func checkList(t *testing.T, m impl.Maze, list []int) {
	t.Helper()
	want := plainIsEntryOrder(m, list)
	is, ok := impl.IsEntryOrder(m, list)
	if !ok || is != want {
		t.Errorf("IsEntryOrder of %s, %v = %v, %v; want %v, true", textOf(m), list, is, ok, want)
	}
	next, ok := impl.NextNodes(m, list)
	if want {
		wantList(t, fmt.Sprint("NextNodes of ", textOf(m), list), next, ok, plainFollowers(m, list))
	} else {
		wantNoList(t, fmt.Sprint("NextNodes of ", textOf(m), list), next, ok)
	}
}

func TestEntryOrdersOfAllLists(t *testing.T) {
	for _, text := range []string{
		"1 0", "1 63", "2 0,0", "2 0,0 0-1-0", "2 1,0 0-1-1", "2 0,1 0-1-1", "3 0,1,0 0-1-0 0-2-1", "3 0,0,1 0-1-1 0-2-0 1-2-0",
		"4 0,1,2,0 0-1-0 0-2-1 2-3-2", "4 0,1,1,0 0-1-0 0-2-0 0-3-1", "4 0,1,2,0 0-1-0 0-2-0 0-3-1 0-3-2", "4 0,0,1,0 0-1-1 1-2-0 1-3-0",
	} {
		m := mazeOf(text)
		lists(-1, m.Size, m.Size+1, func(list []int) { checkList(t, m, list) })
	}
}

func TestEntryOrdersOfGivenLists(t *testing.T) {
	m := mazeOf("5 0,1,2,0,63 0-1-0 0-2-1 0-4-4 2-3-2")
	for _, c := range []struct {
		list []int
		is   bool
		next []int
	}{
		{[]int{0}, true, []int{1}},
		{[]int{0, 1}, true, []int{2}},
		{[]int{0, 1, 2}, true, []int{3}},
		{[]int{0, 1, 2, 3}, true, []int{}},
		{nil, false, nil},
		{[]int{}, false, nil},
		{[]int{1}, false, nil},
		{[]int{1, 0}, false, nil},
		{[]int{0, 2}, false, nil},
		{[]int{0, 2, 1}, false, nil},
		{[]int{0, 1, 3}, false, nil},
		{[]int{0, 1, 2, 3, 4}, false, nil},
		// A node twice, also where one could walk to it again.
		{[]int{0, 0}, false, nil},
		{[]int{0, 1, 0}, false, nil},
		{[]int{0, 1, 1}, false, nil},
		{[]int{0, 1, 2, 1}, false, nil},
		// Numbers that are no nodes.
		{[]int{5}, false, nil},
		{[]int{-1}, false, nil},
		{[]int{0, 5}, false, nil},
		{[]int{0, -1}, false, nil},
		{[]int{-1, 0}, false, nil},
		{[]int{0, 1, 64}, false, nil},
		{[]int{0, 1, math.MaxInt}, false, nil},
		{[]int{0, 1, math.MinInt}, false, nil},
	} {
		is, ok := impl.IsEntryOrder(m, c.list)
		if !ok || is != c.is {
			t.Errorf("IsEntryOrder of %v = %v, %v; want %v, true", c.list, is, ok, c.is)
		}
		next, ok := impl.NextNodes(m, c.list)
		if c.is {
			wantList(t, fmt.Sprint("NextNodes of ", c.list), next, ok, c.next)
		} else {
			wantNoList(t, fmt.Sprint("NextNodes of ", c.list), next, ok)
		}
	}
	next, ok := impl.NextNodes(star(12), []int{0, 7, 3})
	wantList(t, "NextNodes in a star", next, ok, []int{1, 2, 4, 5, 6, 8, 9, 10, 11})
	long := slices.Repeat([]int{0, 1}, 3000)
	next, ok = impl.NextNodes(star(12), long)
	wantNoList(t, "NextNodes of a long list", next, ok)
	if is, ok := impl.IsEntryOrder(star(12), long); is || !ok {
		t.Error("IsEntryOrder of a long list", is, ok)
	}
}

// plainLargest returns the entry set with the most nodes of a list, and whether it is alone.
func plainLargest(sets [][]int, list []int) (largest []int, alone bool) {
	for _, set := range sets {
		if containsAll(list, set) && len(set) >= len(largest) {
			alone = len(set) > len(largest)
			largest = set
		}
	}
	return largest, alone
}

// checkSet checks IsEntrySet and LargestEntrySet for a list of any numbers.
func checkSet(t *testing.T, m impl.Maze, sets [][]int, list []int) {
	t.Helper()
	isValid := true
	for i, x := range list {
		isValid = isValid && x >= 0 && x < m.Size && (i == 0 || list[i-1] < x)
	}
	isSet := slices.ContainsFunc(sets, func(set []int) bool { return slices.Equal(set, list) })
	is, ok := impl.IsEntrySet(m, list)
	if ok != isValid || is != isSet {
		t.Errorf("IsEntrySet of %s, %v = %v, %v; want %v, %v", textOf(m), list, is, ok, isSet, isValid)
	}
	got, ok := impl.LargestEntrySet(m, list)
	if !isValid || !slices.Contains(list, 0) {
		wantNoList(t, fmt.Sprint("LargestEntrySet of ", textOf(m), list), got, ok)
		return
	}
	want, alone := plainLargest(sets, list)
	wantList(t, fmt.Sprint("LargestEntrySet of ", textOf(m), list), got, ok, want)
	if !alone {
		t.Errorf("several largest entry sets of %s, %v", textOf(m), list)
	}
}

func TestEntrySetsOfAllLists(t *testing.T) {
	for _, text := range []string{
		"1 0", "1 63", "2 0,0", "2 0,0 0-1-0", "2 0,1 0-1-1", "3 0,1,0 0-1-0 0-2-1", "3 0,0,1 0-1-1 0-2-0 1-2-0",
		"4 0,1,2,0 0-1-0 0-2-1 2-3-2", "4 0,1,1,0 0-1-0 0-2-0 0-3-1", "4 0,0,1,0 0-1-1 1-2-0 1-3-0",
	} {
		m := mazeOf(text)
		sets := setsOf(plainEntryOrders(m))
		lists(-1, m.Size, m.Size+1, func(list []int) { checkSet(t, m, sets, list) })
	}
}

func TestEntrySetsOfGivenLists(t *testing.T) {
	m := mazeOf("5 0,1,2,0,63 0-1-0 0-2-1 0-4-4 2-3-2")
	for _, c := range []struct {
		list    []int
		is, ok  bool
		largest []int
	}{
		{[]int{0}, true, true, []int{0}},
		{[]int{0, 1}, true, true, []int{0, 1}},
		{[]int{0, 1, 2, 3}, true, true, []int{0, 1, 2, 3}},
		{[]int{0, 2}, false, true, []int{0}},
		{[]int{0, 2, 3, 4}, false, true, []int{0}},
		{[]int{0, 1, 3}, false, true, []int{0, 1}},
		{[]int{0, 1, 2, 3, 4}, false, true, []int{0, 1, 2, 3}},
		{[]int{0, 1, 2, 4}, false, true, []int{0, 1, 2}},
		// A list without nodes, and lists without node 0, are ascending, but no entry sets.
		{nil, false, true, nil},
		{[]int{}, false, true, nil},
		{[]int{1}, false, true, nil},
		{[]int{1, 2, 3}, false, true, nil},
		{[]int{4}, false, true, nil},
		// Lists that are not strictly ascending, or have other numbers.
		{[]int{1, 0}, false, false, nil},
		{[]int{0, 2, 1}, false, false, nil},
		{[]int{0, 0}, false, false, nil},
		{[]int{0, 1, 1}, false, false, nil},
		{[]int{0, 1, 2, 3, 3}, false, false, nil},
		{[]int{5}, false, false, nil},
		{[]int{0, 5}, false, false, nil},
		{[]int{0, 1, 64}, false, false, nil},
		{[]int{-1, 0}, false, false, nil},
		{[]int{-1, 0, 1}, false, false, nil},
		{[]int{0, -1}, false, false, nil},
		{[]int{0, math.MaxInt}, false, false, nil},
		{[]int{math.MinInt, 0}, false, false, nil},
	} {
		is, ok := impl.IsEntrySet(m, c.list)
		if is != c.is || ok != c.ok {
			t.Errorf("IsEntrySet of %v = %v, %v; want %v, %v", c.list, is, ok, c.is, c.ok)
		}
		largest, ok := impl.LargestEntrySet(m, c.list)
		if c.largest != nil {
			wantList(t, fmt.Sprint("LargestEntrySet of ", c.list), largest, ok, c.largest)
		} else {
			wantNoList(t, fmt.Sprint("LargestEntrySet of ", c.list), largest, ok)
		}
	}
}

// eachSubset calls visit for each ascending list of the nodes of a Maze.
func eachSubset(size int, visit func(list []int)) {
	for number := range power2(size) {
		list := []int{}
		for x := range size {
			if number/power2(x)%2 == 1 {
				list = append(list, x)
			}
		}
		visit(list)
	}
}

func TestEntrySetsOfManyMazes(t *testing.T) {
	for _, m := range append(someMazes(200), append(largeMazes(8), wideMaze(), fullMaze(), chain(7))...) {
		sets, _ := plainCounts(m)
		eachSubset(m.Size, func(list []int) { checkSet(t, m, sets, list) })
	}
}

// Promise 5, its second half.
func TestEntrySetsTogetherAreEntrySets(t *testing.T) {
	for _, m := range append(someMazes(200), star(6), row(8), chain(7)) {
		sets, ok := impl.EntrySets(m)
		if !ok {
			t.Fatal("EntrySets fails for", textOf(m))
		}
		for _, a := range sets {
			for _, b := range sets {
				both := slices.Compact(sorted(append(slices.Clone(a), b...)))
				if is, ok := impl.IsEntrySet(m, both); !is || !ok {
					t.Fatal("IsEntrySet", textOf(m), a, "and", b, is, ok)
				}
			}
		}
	}
}

// Promise 5, its first half, and the other parts of the guarantee of the chapter.
func TestNodesInAllPathsPrecede(t *testing.T) {
	for _, m := range append(manyMazes(), wideMaze(), farMaze()) {
		_, entered, _ := impl.GainAtLast(m, 0)
		for _, function := range []func(impl.Maze) ([]int, bool){impl.FirstEntryOrder, impl.LastEntryOrder} {
			order, ok := function(m)
			is, isOK := impl.IsEntryOrder(m, order)
			if !ok || !is || !isOK || !slices.Equal(sorted(order), entered) {
				t.Fatal("complete entry order of", textOf(m), order, ok, is, isOK, entered)
			}
		}
		for y := range m.Size {
			paths, ok := impl.PathsOf(m, y)
			early, earlyOK := impl.EarliestPlace(m, y)
			late, lateOK := impl.LatestPlace(m, y)
			if can := slices.Contains(entered, y); ok != can || earlyOK != can || lateOK != can || early > late {
				t.Fatal("paths and places of", textOf(m), y, paths, ok, early, earlyOK, late, lateOK)
			}
			fewest := m.Size
			for _, path := range paths {
				fewest = min(fewest, len(path))
			}
			if ok && early != fewest-1 {
				t.Fatal("EarliestPlace of", textOf(m), y, early, "but", paths)
			}
			for x := range m.Size {
				inAll := ok && x != y && !slices.ContainsFunc(paths, func(path []int) bool { return !slices.Contains(path, x) })
				if precedes, ok := impl.Precedes(m, x, y); !ok || precedes != inAll {
					t.Fatal("Precedes of", textOf(m), x, y, precedes, ok, "but", paths)
				}
			}
		}
	}
}

func TestPrecedesOfGivenNodes(t *testing.T) {
	m := mazeOf("5 0,1,0,0,0 0-1-0 0-2-0 1-4-2 2-3-1")
	for _, c := range []struct {
		x, y     int
		precedes bool
	}{
		{0, 1, true}, {0, 2, true}, {0, 3, true}, {1, 3, true}, {2, 3, true},
		{1, 2, false}, {2, 1, false}, {3, 1, false}, {3, 0, false}, {1, 0, false},
		// The same node twice, and a node that can never be entered.
		{0, 0, false}, {1, 1, false}, {3, 3, false}, {4, 4, false}, {0, 4, false}, {1, 4, false}, {4, 0, false}, {4, 3, false},
	} {
		precedes, ok := impl.Precedes(m, c.x, c.y)
		if !ok || precedes != c.precedes {
			t.Errorf("Precedes of %d, %d = %v, %v; want %v, true", c.x, c.y, precedes, ok, c.precedes)
		}
	}
}

// A node that is one too great or negative fails like one that is far away.
func TestOrdersWithNoNode(t *testing.T) {
	for _, m := range []impl.Maze{mazeOf("1 0"), mazeOf("2 63,63 0-1-0"), chain(7), star(12), wideMaze()} {
		for _, x := range append(noNumbers, m.Size, m.Size+1, 12, 13, 63) {
			if x >= 0 && x < m.Size {
				continue
			}
			if paths, ok := impl.PathsOf(m, x); ok || len(paths) != 0 {
				t.Error("PathsOf", textOf(m), x, paths, ok)
			}
			early, ok := impl.EarliestPlace(m, x)
			wantInt(t, fmt.Sprint("EarliestPlace ", x), early, ok, 0, false)
			late, ok := impl.LatestPlace(m, x)
			wantInt(t, fmt.Sprint("LatestPlace ", x), late, ok, 0, false)
			for _, y := range []int{0, m.Size - 1, x, -1} {
				if precedes, ok := impl.Precedes(m, x, y); precedes || ok {
					t.Error("Precedes", textOf(m), x, y, precedes, ok)
				}
				if precedes, ok := impl.Precedes(m, y, x); precedes || ok {
					t.Error("Precedes", textOf(m), y, x, precedes, ok)
				}
			}
		}
	}
}

func TestOrdersOfNoMaze(t *testing.T) {
	for _, odd := range oddMazes() {
		for name, function := range map[string]func(impl.Maze) ([]int, bool){
			"FirstEntryOrder": impl.FirstEntryOrder, "LastEntryOrder": impl.LastEntryOrder,
			"LargestEntrySet": func(m impl.Maze) ([]int, bool) { return impl.LargestEntrySet(m, []int{0}) },
			"NextNodes":       func(m impl.Maze) ([]int, bool) { return impl.NextNodes(m, []int{0}) },
		} {
			got, ok := function(odd)
			wantNoList(t, name+" of no Maze", got, ok)
		}
		for name, function := range map[string]func(impl.Maze) (int, bool){
			"CountEntryOrders": impl.CountEntryOrders, "CountEntrySets": impl.CountEntrySets,
			"EarliestPlace": func(m impl.Maze) (int, bool) { return impl.EarliestPlace(m, 0) },
			"LatestPlace":   func(m impl.Maze) (int, bool) { return impl.LatestPlace(m, 0) },
		} {
			got, ok := function(odd)
			wantInt(t, name+" of no Maze", got, ok, 0, false)
		}
		for name, function := range map[string]func(impl.Maze) ([][]int, bool){
			"EntrySets": impl.EntrySets,
			"PathsOf":   func(m impl.Maze) ([][]int, bool) { return impl.PathsOf(m, 0) },
		} {
			if got, ok := function(odd); ok || len(got) != 0 {
				t.Error(name, "of no Maze", got, ok)
			}
		}
		for name, function := range map[string]func(impl.Maze) (bool, bool){
			"IsEntryOrder": func(m impl.Maze) (bool, bool) { return impl.IsEntryOrder(m, []int{0}) },
			"IsEntrySet":   func(m impl.Maze) (bool, bool) { return impl.IsEntrySet(m, []int{0}) },
			"Precedes":     func(m impl.Maze) (bool, bool) { return impl.Precedes(m, 0, 1) },
		} {
			if got, ok := function(odd); got || ok {
				t.Error(name, "of no Maze", got, ok)
			}
		}
	}
}

func TestOrdersAreTotal(t *testing.T) {
	numbers := []int{0, 1, 2, 5, 11, 12, 63, 64, -1, math.MaxInt, math.MinInt}
	nodes := [][]int{
		nil, {}, {0}, {0, 1}, {0, 1, 0}, {0, 0}, {0, 1, 2}, {0, 2, 1}, {0, 1, 2, 3, 4, 5, 6}, {1}, {1, 2}, {12}, {0, 12}, {0, -1}, {-1, 0},
		{math.MinInt}, {0, math.MaxInt}, {0, 1, 2, 3, 4, 5, 6, 7, 8, 9, 10, 11}, {0, 1, 2, 3, 4, 5, 6, 7, 8, 9, 10, 11, 12},
	}
	mazes := append(oddMazes(), mazeOf("1 0"), mazeOf("2 0,0"), mazeOf("2 1,0 0-1-1"), mazeOf("4 9,9,9,9 0-1-63 0-3-8 2-3-5"), chain(7), star(6), row(9), wideMaze(), fullMaze())
	checkTotal(t, []named{
		{"IsEntryOrder", impl.IsEntryOrder}, {"FirstEntryOrder", impl.FirstEntryOrder}, {"LastEntryOrder", impl.LastEntryOrder},
		{"CountEntryOrders", impl.CountEntryOrders}, {"IsEntrySet", impl.IsEntrySet}, {"EntrySets", impl.EntrySets}, {"CountEntrySets", impl.CountEntrySets},
		{"LargestEntrySet", impl.LargestEntrySet}, {"PathsOf", impl.PathsOf}, {"EarliestPlace", impl.EarliestPlace}, {"LatestPlace", impl.LatestPlace},
		{"Precedes", impl.Precedes}, {"NextNodes", impl.NextNodes},
	}, []any{mazes, numbers, nodes})
}
