package tests

import (
	"fmt"
	"math"
	"math/rand"
	"slices"
	"testing"

	"loop.example/g01158/impl"
)

func TestLimitOfClutters(t *testing.T) {
	if impl.MaxClutter != 20 {
		t.Error("MaxClutter", impl.MaxClutter)
	}
}

// has reports whether a set has a colour, by division alone.
func has(set int, c int) bool { return set/power2(c)%2 == 1 }

// isIn reports whether a set has all colours of another one.
func isIn(part int, set int) bool { return containsAll(plainColours(set), plainColours(part)) }

// plainSetWins reports whether a set wins, by a search for key walks where only its keys lie.
func plainSetWins(m impl.Maze, set int) bool {
	return plainWins(plainDropped(m, noDoor, func(_ int, c int) bool { return !has(set, c) }))
}

// plainLeast returns those of the 64 sets of which a table is true, and of which it is not without
// any single one of their colours, in the order of a clutter.
func plainLeast(table []bool) []int {
	least := []int{}
	for size := range 7 {
		for set, is := range table {
			if !is || len(plainColours(set)) != size {
				continue
			}
			stays := func(c int) bool { return table[set-power2(c)] }
			if !slices.ContainsFunc(plainColours(set), stays) {
				least = append(least, set)
			}
		}
	}
	return least
}

// needs is what the functions of the chapter tell of a Maze without a walk.
type needs struct {
	wins, bars   string
	count        int
	power        string
	needed, idle int
}

// plainNeeds finds all by the words of the document, from the sets that win.
func plainNeeds(m impl.Maze) (want needs, wins []bool, bars []bool) {
	for set := range 64 {
		wins = append(wins, plainSetWins(m, set))
	}
	want = needs{needed: 63, idle: 63}
	for set := range 64 {
		bars = append(bars, true)
		for other := range 64 {
			shares := slices.ContainsFunc(plainColours(set), func(c int) bool { return has(other, c) })
			if wins[other] && !shares {
				bars[set] = false
			}
		}
		if wins[set] {
			want.count++
		}
	}
	power := []int{}
	for c := range 6 {
		changes, isNeeded, isIdle := 0, true, true
		for set := range 64 {
			if !has(set, c) && !wins[set] && wins[set+power2(c)] {
				changes++
			}
			isNeeded = isNeeded && (!wins[set] || has(set, c))
		}
		for _, set := range plainLeast(wins) {
			isIdle = isIdle && !has(set, c)
		}
		if !isNeeded {
			want.needed -= power2(c)
		}
		if !isIdle {
			want.idle -= power2(c)
		}
		power = append(power, changes)
	}
	want.wins, want.bars, want.power = commas(plainLeast(wins)), commas(plainLeast(bars)), commas(power)
	return want, wins, bars
}

// toldNeeds returns what the package tells.
func toldNeeds(t *testing.T, m impl.Maze) needs {
	t.Helper()
	wins, winsOK := impl.LeastWins(m)
	bars, barsOK := impl.LeastBars(m)
	count, countOK := impl.CountWinning(m)
	power, powerOK := impl.PowerOfColours(m)
	needed, neededOK := impl.NeededColours(m)
	idle, idleOK := impl.IdleColours(m)
	if !winsOK || !barsOK || !countOK || !powerOK || !neededOK || !idleOK {
		t.Fatal("needs of", textOf(m), winsOK, barsOK, countOK, powerOK, neededOK, idleOK)
	}
	return needs{commas(wins), commas(bars), count, commas(power), needed, idle}
}

// checkNeeds holds the functions of a Maze and those of a Maze and a set against what they must
// return.
func checkNeeds(t *testing.T, m impl.Maze) needs {
	t.Helper()
	want, wins, bars := plainNeeds(m)
	if got := toldNeeds(t, m); got != want {
		t.Errorf("needs of %s = %+v; want %+v", textOf(m), got, want)
	}
	for set := range 64 {
		if got, ok := impl.SetWins(m, set); !ok || got != wins[set] {
			t.Errorf("SetWins of %s, %d = %v, %v; want %v, true", textOf(m), set, got, ok, wins[set])
		}
		if got, ok := impl.SetBars(m, set); !ok || got != bars[set] {
			t.Errorf("SetBars of %s, %d = %v, %v; want %v, true", textOf(m), set, got, ok, bars[set])
		}
	}
	return want
}

// setsOfSize returns all sets of so many of the six colours, in ascending order.
func setsOfSize(size int) []int {
	sets := []int{}
	for set := range 64 {
		if len(plainColours(set)) == size {
			sets = append(sets, set)
		}
	}
	return sets
}

// gateMaze returns a Maze of two nodes, all colours at the first one, and doors with some needs.
func gateMaze(needs []int) impl.Maze {
	m := impl.Maze{Size: 2, Keys: []int{63, 0}}
	for _, need := range needs {
		m.Doors = append(m.Doors, [3]int{0, 1, need})
	}
	m.Doors = sortedDoors(m.Doors)
	return m
}

func TestNeedsOfGivenMazes(t *testing.T) {
	every := needs{"0", "", 64, "0,0,0,0,0,0", 0, 63}
	never := needs{"", "0", 0, "0,0,0,0,0,0", 63, 63}
	for _, c := range []struct {
		text string
		want needs
	}{
		// A Maze of one node is won by every set.
		{"1 0", every},
		{"1 63", every},
		// A Maze without doors, one without any key, and doors without needs.
		{"2 0,0", never},
		{"3 63,63,63", never},
		{"2 0,0 0-1-1", never},
		{"2 0,0 0-1-0", every},
		{"3 63,63,63 0-1-0 1-2-0", every},
		{"3 0,0,0 0-1-0 0-1-63 1-2-0", every},
		// A key that lies behind its own door, and one that lies nowhere.
		{"2 0,1 0-1-1", never},
		{"3 0,1,0 0-1-0 1-2-2", never},
		// One colour: half of all sets have it.
		{"2 1,0 0-1-1", needs{"1", "1", 32, "32,0,0,0,0,0", 1, 62}},
		{"2 32,0 0-1-32", needs{"32", "32", 32, "0,0,0,0,0,32", 32, 31}},
		{"3 0,1,0 0-1-0 0-2-1 1-2-3", needs{"1", "1", 32, "32,0,0,0,0,0", 1, 62}},
		// Both of two colours, at once or one behind the other: either one bars.
		{"2 3,0 0-1-3", needs{"3", "1,2", 16, "16,16,0,0,0,0", 3, 60}},
		{"3 1,2,0 0-1-1 1-2-2", needs{"3", "1,2", 16, "16,16,0,0,0,0", 3, 60}},
		{"4 0,1,2,0 0-1-0 0-2-1 0-3-2", needs{"3", "1,2", 16, "16,16,0,0,0,0", 3, 60}},
		// One of two colours, through two doors between the same nodes or on two ways.
		{"2 3,0 0-1-1 0-1-2", needs{"1,2", "3", 48, "16,16,0,0,0,0", 0, 60}},
		{"4 3,0,0,0 0-1-1 0-2-2 1-3-0 2-3-0", needs{"1,2", "3", 48, "16,16,0,0,0,0", 0, 60}},
		// Two doors between the same nodes, one of which saves a colour of the other one.
		{"2 3,0 0-1-1 0-1-3", needs{"1", "1", 32, "32,0,0,0,0,0", 1, 62}},
		{"2 2,0 0-1-1 0-1-2", needs{"2", "2", 32, "0,32,0,0,0,0", 2, 61}},
		// A colour, or two others: a set of one colour stands before a lesser one of two.
		{"2 7,0 0-1-3 0-1-4", needs{"4,3", "5,6", 40, "8,8,24,0,0,0", 0, 56}},
		{"2 7,0 0-1-1 0-1-6", needs{"1,6", "3,5", 40, "24,8,8,0,0,0", 0, 56}},
		// Sets of one size stand in the order of their numbers.
		{"2 7,0 0-1-3 0-1-5 0-1-6", needs{"3,5,6", "3,5,6", 32, "16,16,16,0,0,0", 0, 56}},
		// A key on a way that the sets that win need not go.
		{"4 0,1,2,0 0-1-0 0-2-0 0-3-1 2-3-2", needs{"1,2", "3", 48, "16,16,0,0,0,0", 0, 60}},
		{"4 0,1,2,0 0-1-0 1-2-1 1-3-0", every},
		// All colours.
		{"2 63,0 0-1-63", needs{"63", "1,2,4,8,16,32", 1, "1,1,1,1,1,1", 63, 0}},
		{"2 63,0 0-1-1 0-1-2 0-1-4 0-1-8 0-1-16 0-1-32", needs{"1,2,4,8,16,32", "63", 63, "1,1,1,1,1,1", 0, 0}},
	} {
		m := mazeOf(c.text)
		if got := toldNeeds(t, m); got != c.want {
			t.Errorf("needs of %s = %+v; want %+v", c.text, got, c.want)
		}
		checkNeeds(t, m)
	}
}

func TestNeedsUpToTheLimits(t *testing.T) {
	// Any three colours, any two, and any four.
	for _, c := range []struct {
		size, barSize, count, power int
	}{{3, 4, 42, 10}, {2, 5, 57, 5}, {4, 3, 22, 10}, {5, 2, 7, 5}} {
		m := gateMaze(setsOfSize(c.size))
		want := needs{commas(setsOfSize(c.size)), commas(setsOfSize(c.barSize)), c.count, commas(slices.Repeat([]int{c.power}, 6)), 0, 0}
		if got := toldNeeds(t, m); got != want {
			t.Errorf("needs of %s = %+v; want %+v", textOf(m), got, want)
		}
		checkNeeds(t, m)
	}
	all := needs{"63", "1,2,4,8,16,32", 1, "1,1,1,1,1,1", 63, 0}
	for _, m := range []impl.Maze{wideMaze(), chain(7)} {
		if got := toldNeeds(t, m); got != all {
			t.Errorf("needs of %s = %+v; want %+v", textOf(m), got, all)
		}
	}
	// The keys of colours 0..4 are needed for the way to and fro, that of colour 5 lies nowhere.
	far := needs{"31", "1,2,4,8,16", 2, "2,2,2,2,2,0", 31, 32}
	if got := toldNeeds(t, farMaze()); got != far {
		t.Errorf("needs of %s = %+v; want %+v", textOf(farMaze()), got, far)
	}
	for _, m := range []impl.Maze{wideMaze(), chain(7), farMaze(), fullMaze(), gateMaze(setsOfSize(0)), gateMaze(nil)} {
		checkNeeds(t, m)
	}
}

// openMazes returns Mazes with doors between near nodes, all of which have a need, and many keys:
// most of them are won by some sets and not by others.
func openMazes(r *rand.Rand, count int) []impl.Maze {
	mazes := []impl.Maze{}
	for range count {
		m := randomMaze(r, 2+r.Intn(4), 0, 6)
		for x := range m.Size {
			m.Keys[x] |= r.Intn(64)
		}
		for range 8 + r.Intn(12) {
			a := r.Intn(m.Size - 1)
			m.Doors = append(m.Doors, [3]int{a, min(a+1+r.Intn(2), m.Size-1), power2(r.Intn(6)) | sparseSet(r, 6)&r.Intn(64)})
		}
		m.Doors = sortedDoors(m.Doors)
		mazes = append(mazes, m)
	}
	return mazes
}

func needMazes() []impl.Maze {
	return append(append(someMazes(60), largeMazes(40)...), openMazes(newRandom(), 150)...)
}

func TestNeedsOfManyMazes(t *testing.T) {
	every, never, some, several := 0, 0, 0, 0
	for _, m := range needMazes() {
		want := checkNeeds(t, m)
		switch want.count {
		case 0:
			never++
		case 64:
			every++
		default:
			some++
		}
		if len(want.wins) > 3 && len(want.bars) > 3 {
			several++
		}
	}
	if every < 20 || never < 20 || some < 60 || several < 30 {
		t.Error("too few Mazes are won by every set, by none or by some, or have several least wins and bars:", every, never, some, several)
	}
}

// Promise 6.
func TestLeastWinsAndLeastBarsAreDual(t *testing.T) {
	r := newRandom()
	mazes := append(append(someMazes(300), largeMazes(200)...), openMazes(r, 300)...)
	mazes = append(mazes, wideMaze(), farMaze(), fullMaze(), chain(7), gateMaze(nil))
	for size := range 7 {
		mazes = append(mazes, gateMaze(setsOfSize(size)))
	}
	for _, m := range mazes {
		wins, winsOK := impl.LeastWins(m)
		bars, barsOK := impl.LeastBars(m)
		if !winsOK || !barsOK || !impl.IsClutter(wins) || !impl.IsClutter(bars) {
			t.Fatal("least wins and bars of", textOf(m), wins, winsOK, bars, barsOK)
		}
		dual, ok := impl.DualOf(wins)
		wantList(t, "DualOf LeastWins of "+textOf(m), dual, ok, bars)
		dual, ok = impl.DualOf(bars)
		wantList(t, "DualOf LeastBars of "+textOf(m), dual, ok, wins)
		for set := range 64 {
			checkWinsAndBars(t, m, wins, bars, set)
		}
	}
}

// checkWinsAndBars checks what a set must do that wins or bars.
func checkWinsAndBars(t *testing.T, m impl.Maze, wins []int, bars []int, set int) {
	t.Helper()
	doesWin, winsOK := impl.SetWins(m, set)
	doesBar, barsOK := impl.SetBars(m, set)
	meetsBars, meetsBarsOK := impl.MeetsAll(bars, set)
	meetsWins, meetsWinsOK := impl.MeetsAll(wins, set)
	others, othersOK := impl.SetWins(m, 63-set)
	if !winsOK || !barsOK || !meetsBarsOK || !meetsWinsOK || !othersOK {
		t.Fatal("functions fail for", textOf(m), set)
	}
	hasOne := func(list []int) bool {
		return slices.ContainsFunc(list, func(least int) bool { return isIn(least, set) })
	}
	if doesWin != hasOne(wins) || doesBar != hasOne(bars) {
		t.Fatal("set without a least one in", textOf(m), set, doesWin, wins, doesBar, bars)
	}
	if doesWin != meetsBars || doesBar != meetsWins || doesBar == others {
		t.Fatal("set of", textOf(m), set, doesWin, meetsBars, doesBar, meetsWins, others)
	}
}

// The guarantee of the chapter, and what is told beside single functions.
func TestNeedsGuarantee(t *testing.T) {
	won := 0
	for _, m := range append(needMazes(), wideMaze(), farMaze(), fullMaze(), chain(7)) {
		count, countOK := impl.CountWinning(m)
		wins, winsOK := impl.LeastWins(m)
		can, canOK := impl.CanWin(m, 0)
		if !countOK || !winsOK || !canOK || (count == 0) != (len(wins) == 0) || can != (count > 0) {
			t.Fatal("CountWinning", textOf(m), count, countOK, wins, winsOK, can, canOK)
		}
		keys, ok := impl.FewestKeys(m)
		if ok != can || ok && keys < len(plainColours(wins[0])) {
			t.Fatal("FewestKeys", textOf(m), keys, ok, wins)
		}
		if can {
			won++
		}
		checkColours(t, m, can)
		keyWalks(m, 3, func(walk []int) {
			_, ok := impl.HintColours(m, walk)
			_, hintOK := impl.HintAt(m, walk)
			if ok != can || hintOK != (can && walk[len(walk)-1] != m.Size-1) {
				t.Fatal("hints", textOf(m), walk, ok, hintOK, can)
			}
		})
	}
	if won < 50 {
		t.Error("too few Mazes are won:", won)
	}
}

// checkColours checks that idle colours have no power, and that needed ones bar alone.
func checkColours(t *testing.T, m impl.Maze, can bool) {
	t.Helper()
	power, powerOK := impl.PowerOfColours(m)
	needed, neededOK := impl.NeededColours(m)
	idle, idleOK := impl.IdleColours(m)
	if !powerOK || !neededOK || !idleOK {
		t.Fatal("colours of", textOf(m), powerOK, neededOK, idleOK)
	}
	for c := range 6 {
		bars, ok := impl.SetBars(m, power2(c))
		if !ok || has(idle, c) != (power[c] == 0) || has(needed, c) != bars {
			t.Fatal("colour", c, "of", textOf(m), power, needed, idle, bars, ok)
		}
	}
	if !can && (needed != 63 || idle != 63) {
		t.Fatal("colours of a Maze that cannot be won", textOf(m), needed, idle)
	}
}

// plainIsClutter follows the words of the document.
func plainIsClutter(list []int) bool {
	if len(list) > 20 {
		return false
	}
	for i, set := range list {
		if set < 0 || set > 63 {
			return false
		}
		for j, other := range list[:i] {
			if isIn(other, set) || isIn(set, other) {
				return false
			}
			size, otherSize := len(plainColours(set)), len(plainColours(other))
			if j == i-1 && (otherSize > size || otherSize == size && other >= set) {
				return false
			}
		}
	}
	return true
}

// plainClutter returns what ClutterOf must for some sets.
func plainClutter(list []int) []int {
	clutter := []int{}
	for size := range 7 {
		for set := range 64 {
			if !slices.Contains(list, set) || len(plainColours(set)) != size {
				continue
			}
			isLess := func(other int) bool { return other != set && isIn(other, set) }
			if !slices.ContainsFunc(list, isLess) {
				clutter = append(clutter, set)
			}
		}
	}
	return clutter
}

func plainMeets(clutter []int, set int) bool {
	for _, other := range clutter {
		if !slices.ContainsFunc(plainColours(other), func(c int) bool { return has(set, c) }) {
			return false
		}
	}
	return true
}

func plainDual(clutter []int) []int {
	table := []bool{}
	for set := range 64 {
		table = append(table, plainMeets(clutter, set))
	}
	return plainLeast(table)
}

// checkClutter checks all functions of lists for one of any numbers.
func checkClutter(t *testing.T, list []int) {
	t.Helper()
	name := " of " + commas(list)
	is := impl.IsClutter(list)
	if want := plainIsClutter(list); is != want {
		t.Errorf("IsClutter%s = %v; want %v", name, is, want)
	}
	made, ok := impl.ClutterOf(list)
	if slices.ContainsFunc(list, func(set int) bool { return set < 0 || set > 63 }) {
		wantNoList(t, "ClutterOf"+name, made, ok)
	} else {
		wantList(t, "ClutterOf"+name, made, ok, plainClutter(list))
		if !plainIsClutter(made) {
			t.Errorf("ClutterOf%s = %v, which is no clutter", name, made)
		}
	}
	dual, ok := impl.DualOf(list)
	if !is {
		wantNoList(t, "DualOf"+name, dual, ok)
		for _, set := range []int{0, 1, 63, 64, -1} {
			if meets, ok := impl.MeetsAll(list, set); meets || ok {
				t.Errorf("MeetsAll%s, %d = %v, %v; want a failure", name, set, meets, ok)
			}
		}
		return
	}
	wantList(t, "DualOf"+name, dual, ok, plainDual(list))
	for set := range 64 {
		if meets, ok := impl.MeetsAll(list, set); !ok || meets != plainMeets(list, set) {
			t.Errorf("MeetsAll%s, %d = %v, %v; want %v, true", name, set, meets, ok, !meets)
		}
	}
	back, ok := impl.DualOf(dual)
	wantList(t, "DualOf the dual"+name, back, ok, list)
}

func TestCluttersOfGivenLists(t *testing.T) {
	for _, c := range []struct {
		list []int
		is   bool
		made []int
		dual []int
	}{
		// No sets, the set without colours alone, and with others.
		{nil, true, []int{}, []int{0}},
		{[]int{}, true, []int{}, []int{0}},
		{[]int{0}, true, []int{0}, []int{}},
		{[]int{0, 0}, false, []int{0}, nil},
		{[]int{0, 1}, false, []int{0}, nil},
		{[]int{63, 0}, false, []int{0}, nil},
		{[]int{7, 1, 0, 32}, false, []int{0}, nil},
		// One set.
		{[]int{1}, true, []int{1}, []int{1}},
		{[]int{32}, true, []int{32}, []int{32}},
		{[]int{3}, true, []int{3}, []int{1, 2}},
		{[]int{63}, true, []int{63}, []int{1, 2, 4, 8, 16, 32}},
		// Several sets, in order.
		{[]int{1, 2}, true, []int{1, 2}, []int{3}},
		{[]int{4, 3}, true, []int{4, 3}, []int{5, 6}},
		{[]int{3, 4}, false, []int{4, 3}, nil},
		{[]int{3, 12}, true, []int{3, 12}, []int{5, 6, 9, 10}},
		{[]int{3, 5, 6}, true, []int{3, 5, 6}, []int{3, 5, 6}},
		{[]int{3, 6, 12}, true, []int{3, 6, 12}, []int{5, 6, 10}},
		{[]int{32, 16, 15}, false, []int{16, 32, 15}, nil},
		{[]int{16, 32, 15}, true, []int{16, 32, 15}, []int{49, 50, 52, 56}},
		{[]int{32, 3, 20, 28}, false, []int{32, 3, 20}, nil},
		// Out of order, several times the same, and with sets that have all colours of others.
		{[]int{2, 1}, false, []int{1, 2}, nil},
		{[]int{1, 1}, false, []int{1}, nil},
		{[]int{1, 2, 1, 2, 1}, false, []int{1, 2}, nil},
		{[]int{3, 3}, false, []int{3}, nil},
		{[]int{1, 2, 2}, false, []int{1, 2}, nil},
		{[]int{1, 3}, false, []int{1}, nil},
		{[]int{3, 1}, false, []int{1}, nil},
		{[]int{3, 1, 7}, false, []int{1}, nil},
		{[]int{7, 3, 5, 6}, false, []int{3, 5, 6}, nil},
		{[]int{1, 6, 7}, false, []int{1, 6}, nil},
		{[]int{1, 6, 14}, false, []int{1, 6}, nil},
		{[]int{2, 4, 9, 63, 25}, false, []int{2, 4, 9}, nil},
	} {
		if is := impl.IsClutter(c.list); is != c.is {
			t.Errorf("IsClutter of %v = %v; want %v", c.list, is, c.is)
		}
		made, ok := impl.ClutterOf(c.list)
		wantList(t, fmt.Sprint("ClutterOf ", c.list), made, ok, c.made)
		dual, ok := impl.DualOf(c.list)
		if c.is {
			wantList(t, fmt.Sprint("DualOf ", c.list), dual, ok, c.dual)
		} else {
			wantNoList(t, fmt.Sprint("DualOf ", c.list), dual, ok)
		}
		checkClutter(t, c.list)
	}
}

func TestCluttersOfTwoNumbers(t *testing.T) {
	lists(-2, 65, 2, func(list []int) { checkClutter(t, list) })
}

// All lists of three sets, by IsClutter alone.
func TestCluttersOfThreeSets(t *testing.T) {
	for a := range 64 {
		for b := range 64 {
			for c := range 64 {
				list := []int{a, b, c}
				if is := impl.IsClutter(list); is != (a != b && b != c && a != c && plainIsOrdered(list)) {
					t.Fatal("IsClutter", list, is)
				}
			}
		}
	}
}

// plainIsOrdered reports whether three different sets are a clutter.
func plainIsOrdered(list []int) bool {
	size := []int{}
	for _, set := range list {
		n := 0
		for ; set > 0; set /= 2 {
			n += set % 2
		}
		size = append(size, n)
	}
	for i, a := range list {
		for j, b := range list {
			if i < j && (size[i] > size[j] || size[i] == size[j] && a > b || a|b == b || a|b == a) {
				return false
			}
		}
	}
	return true
}

// All clutters of four colours: 168 of them.
func TestDualOfAllCluttersOfFourColours(t *testing.T) {
	count := 0
	var extend func(list []int, from int)
	sets := []int{}
	for size := range 5 {
		for set := range 16 {
			if len(plainColours(set)) == size {
				sets = append(sets, set)
			}
		}
	}
	extend = func(list []int, from int) {
		if !plainIsClutter(list) {
			return
		}
		count++
		checkClutter(t, list)
		for i := from; i < len(sets); i++ {
			extend(append(slices.Clone(list), sets[i]), i+1)
		}
	}
	extend(nil, 0)
	if count != 168 {
		t.Error("clutters of four colours:", count)
	}
}

func TestCluttersUpToTheLimits(t *testing.T) {
	triples := setsOfSize(3)
	if len(triples) != impl.MaxClutter || !impl.IsClutter(triples) {
		t.Fatal("IsClutter of all sets of three colours", triples)
	}
	dual, ok := impl.DualOf(triples)
	wantList(t, "DualOf all sets of three colours", dual, ok, setsOfSize(4))
	dual, ok = impl.DualOf(setsOfSize(4))
	wantList(t, "DualOf all sets of four colours", dual, ok, triples)
	for size := range 7 {
		checkClutter(t, setsOfSize(size))
		// One more set has all colours of another one, or another one has all of its colours.
		for set := range 64 {
			checkClutter(t, append(setsOfSize(size), set))
			checkClutter(t, append([]int{set}, setsOfSize(size)...))
		}
	}
	// A list with one set more than there may be, of which too many are left at no time.
	for set := range 64 {
		list := append(slices.Clone(triples), set)
		made, ok := impl.ClutterOf(list)
		if !ok || len(made) > impl.MaxClutter || !slices.Equal(made, plainClutter(list)) {
			t.Error("ClutterOf", list, made, ok)
		}
		if impl.IsClutter(list) {
			t.Error("IsClutter", list)
		}
	}
	everything := []int{}
	for set := 63; set >= 0; set-- {
		everything = append(everything, set)
	}
	made, ok := impl.ClutterOf(everything)
	wantList(t, "ClutterOf all sets", made, ok, []int{0})
	made, ok = impl.ClutterOf(everything[:63])
	wantList(t, "ClutterOf all sets but one", made, ok, []int{1, 2, 4, 8, 16, 32})
	slices.Reverse(triples)
	made, ok = impl.ClutterOf(slices.Repeat(triples, 500))
	wantList(t, "ClutterOf a long list", made, ok, setsOfSize(3))
	checkClutter(t, slices.Repeat([]int{5}, 3000))
	checkClutter(t, append(slices.Repeat([]int{5, 3}, 3000), 64))
	checkClutter(t, append(slices.Repeat([]int{5, 3}, 3000), -1))
}

func TestCluttersOfRandomLists(t *testing.T) {
	r := newRandom()
	several := 0
	for range 1500 {
		list := []int{}
		for range r.Intn(26) {
			list = append(list, r.Intn(64)|r.Intn(64)&r.Intn(64))
		}
		checkClutter(t, list)
		clutter := plainClutter(list)
		checkClutter(t, clutter)
		if len(clutter) > 3 {
			several++
		}
		if len(clutter) > 1 {
			i := r.Intn(len(clutter) - 1)
			clutter[i], clutter[i+1] = clutter[i+1], clutter[i]
			checkClutter(t, clutter)
		}
	}
	if several < 300 {
		t.Error("too few clutters of several sets:", several)
	}
}

func TestCluttersOfNoSets(t *testing.T) {
	for _, n := range append(noNumbers, 65, 127, 128) {
		for _, list := range [][]int{{n}, {0, n}, {n, 0}, {1, n}, {1, 2, n}, {n, 1, 2}, {n, n}, append(setsOfSize(3), n)} {
			checkClutter(t, list)
		}
		for _, clutter := range [][]int{nil, {0}, {1}, {1, 2}, {63}, setsOfSize(3)} {
			if meets, ok := impl.MeetsAll(clutter, n); meets || ok {
				t.Error("MeetsAll", clutter, n, meets, ok)
			}
		}
	}
}

// plainHint returns the way of which a hint is the next node, and whether there is one: it
// follows the least node from which the goal can still be won in time.
func plainHint(m impl.Maze, walk []int) ([]int, bool) {
	taken, is := plainTaken(m, walk)
	if !is {
		return nil, false
	}
	here := point{walk[len(walk)-1], taken[len(taken)-1]}
	left, _ := plainFewest(plainLayers(m, here), anySet(m.Size-1))
	if left < 0 {
		return nil, false
	}
	way := []int{here[0]}
	for ; left > 0; left-- {
		nexts := plainNext(m, here)
		i := slices.IndexFunc(nexts, func(next point) bool {
			steps, _ := plainFewest(plainLayers(m, next), anySet(m.Size-1))
			return steps == left-1
		})
		here = nexts[i]
		way = append(way, here[0])
	}
	return way, true
}

// checkHint holds both functions of a walk against what they must return.
func checkHint(t *testing.T, m impl.Maze, walk []int, hint int, hintOK bool, colours int, coloursOK bool) {
	t.Helper()
	name := fmt.Sprint(" of ", textOf(m), " ", walk)
	got, ok := impl.HintAt(m, walk)
	wantInt(t, "HintAt"+name, got, ok, hint, hintOK)
	got, ok = impl.HintColours(m, walk)
	wantInt(t, "HintColours"+name, got, ok, colours, coloursOK)
}

// checkPlainHint checks them by what plainHint finds.
func checkPlainHint(t *testing.T, m impl.Maze, walk []int) {
	t.Helper()
	way, ok := plainHint(m, walk)
	if !ok {
		checkHint(t, m, walk, 0, false, 0, false)
		return
	}
	taken, _ := plainTaken(m, walk)
	colours := 0
	for c := range 6 {
		lies := slices.ContainsFunc(way, func(x int) bool { return has(m.Keys[x], c) })
		if lies && !has(taken[len(taken)-1], c) {
			colours += power2(c)
		}
	}
	if len(way) == 1 {
		checkHint(t, m, walk, 0, false, colours, true)
		return
	}
	checkHint(t, m, walk, way[1], true, colours, true)
}

func TestHintsOfGivenWalks(t *testing.T) {
	for _, c := range []struct {
		text    string
		walk    []int
		hint    int
		colours int
	}{
		// At the goal there is no hint, shown as -1, and there are no colours.
		{"1 0", []int{0}, -1, 0},
		{"1 63", []int{0}, -1, 0},
		{"2 0,63 0-1-0", []int{0, 1}, -1, 0},
		{"2 0,0 0-1-0", []int{0, 1, 0, 1}, -1, 0},
		// One step, with and without a colour at the goal; the keys of node 0 are on the walk.
		{"2 0,0 0-1-0", []int{0}, 1, 0},
		{"2 0,5 0-1-0", []int{0}, 1, 5},
		{"2 1,5 0-1-1", []int{0}, 1, 4},
		{"2 63,63 0-1-63", []int{0}, 1, 0},
		// A detour for a key, at its beginning, half of the way, and behind it.
		{"3 0,1,0 0-1-0 0-2-1", []int{0}, 1, 1},
		{"3 0,1,0 0-1-0 0-2-1", []int{0, 1}, 0, 0},
		{"3 0,1,0 0-1-0 0-2-1", []int{0, 1, 0}, 2, 0},
		{"3 0,1,0 0-1-0 0-2-1", []int{0, 1, 0, 2}, -1, 0},
		{"3 0,1,4 0-1-0 0-2-1", []int{0, 1, 0}, 2, 4},
		{"3 0,1,0 0-1-0 0-2-1 1-2-3", []int{0, 1}, 0, 0},
		{"3 0,3,0 0-1-0 0-2-1 1-2-3", []int{0, 1}, 2, 0},
		// Two keys: the lesser node first, then what is left.
		{"4 0,1,2,0 0-1-0 0-2-0 0-3-3", []int{0}, 1, 3},
		{"4 0,1,2,0 0-1-0 0-2-0 0-3-3", []int{0, 2, 0}, 1, 1},
		{"4 0,1,2,0 0-1-0 0-2-0 0-3-3", []int{0, 2, 0, 1}, 0, 0},
		{"4 0,1,2,0 0-1-0 0-2-0 0-3-3", []int{0, 1, 0}, 2, 2},
		{"4 0,1,2,0 0-1-0 0-2-0 0-3-3", []int{0, 1}, 0, 2},
		// Of two ways, the first one, and its colours; the shorter one of them, also where it has the
		// greater nodes or the more keys.
		{"4 0,1,2,0 0-1-0 0-2-0 1-3-0 2-3-0", []int{0}, 1, 1},
		{"4 0,1,2,0 0-1-0 0-2-0 1-3-0 2-3-0", []int{0, 2}, 3, 0},
		{"4 0,1,2,0 0-1-0 0-2-0 1-2-0 2-3-0", []int{0}, 2, 2},
		{"4 0,1,2,4 0-1-0 0-2-0 1-2-0 2-3-0", []int{0, 1}, 2, 6},
		// A door that the colours of the walk have opened is a shorter way, one that the keys ahead
		// open may be on it.
		{"5 0,1,0,0,0 0-1-0 0-2-0 0-4-1 2-3-0 3-4-0", []int{0, 1, 0}, 4, 0},
		{"5 0,1,0,0,0 0-1-0 0-2-0 0-4-3 2-3-0 3-4-0", []int{0, 1, 0}, 2, 0},
		{"5 0,0,1,0,2 0-1-0 0-2-0 1-3-0 2-4-1 3-4-0", []int{0}, 2, 3},
		{"5 0,0,1,0,2 0-1-0 0-2-0 1-3-0 2-4-1 3-4-0", []int{0, 1}, 3, 2},
		// A walk that goes on behind the goal, which has opened another way to it.
		{"3 0,2,1 0-2-0 1-2-1", []int{0, 2, 1}, 2, 0},
		{"3 0,2,1 0-2-0 1-2-1", []int{0, 2}, -1, 0},
		{"4 0,0,0,1 0-1-0 1-2-0 1-3-1 2-3-0", []int{0, 1, 2, 3, 2, 1}, 3, 0},
		// Two doors between the same nodes.
		{"2 0,0 0-1-0 0-1-63", []int{0}, 1, 0},
		{"3 2,1,0 0-1-1 0-1-2 1-2-3", []int{0}, 1, 1},
	} {
		checkHint(t, mazeOf(c.text), c.walk, max(0, c.hint), c.hint >= 0, c.colours, true)
		checkPlainHint(t, mazeOf(c.text), c.walk)
	}
}

func TestHintsWhereOneCannotWin(t *testing.T) {
	for _, c := range []struct {
		text  string
		walks [][]int
	}{
		{"2 0,0", [][]int{{0}}},
		{"2 63,63", [][]int{{0}}},
		{"2 0,1 0-1-1", [][]int{{0}}},
		{"3 0,1,0 0-1-0 1-2-2", [][]int{{0}, {0, 1}, {0, 1, 0}, {0, 1, 0, 1}}},
		{"3 1,2,0 0-1-1 0-1-2 0-2-4", [][]int{{0}, {0, 1}, {0, 1, 0}}},
		{"4 0,63,0,0 0-1-0 2-3-0", [][]int{{0}, {0, 1}}},
	} {
		for _, walk := range c.walks {
			if _, is := plainTaken(mazeOf(c.text), walk); !is {
				t.Fatal("no key walk", c.text, walk)
			}
			checkHint(t, mazeOf(c.text), walk, 0, false, 0, false)
		}
	}
}

func TestHintsOfAllLists(t *testing.T) {
	for _, text := range []string{
		"1 0", "1 63", "2 0,0", "2 1,0 0-1-1", "3 0,1,0 0-1-0 0-2-1", "3 0,1,2 0-1-0 0-2-3 1-2-1", "4 0,1,2,0 0-1-0 0-2-1 1-2-2 1-3-3",
		"4 0,1,2,4 0-1-0 0-2-0 0-3-3", "3 0,1,0 0-1-0 1-2-2", "4 0,0,2,1 0-3-0 1-2-1 1-3-2",
	} {
		m := mazeOf(text)
		lists(-1, m.Size, 5, func(list []int) { checkPlainHint(t, m, list) })
	}
}

func TestHintsOfManyMazes(t *testing.T) {
	r := newRandom()
	for _, m := range append(someMazes(150), openMazes(r, 30)...) {
		walks := [][]int{}
		keyWalks(m, 4, func(walk []int) { walks = append(walks, slices.Clone(walk)) })
		for range min(40, len(walks)) {
			checkPlainHint(t, m, walks[r.Intn(len(walks))])
		}
	}
	for _, m := range append(wayMazes()[:40], largeMazes(40)...) {
		checkPlainHint(t, m, []int{0})
	}
}

// Whoever goes where the hints lead comes to the goal on the first way of chapter 4, and takes on
// it what was told at first.
func TestHintsLeadToTheGoal(t *testing.T) {
	won := 0
	for _, m := range append(wayMazes(), chain(7)) {
		way, ok := impl.FirstWay(m)
		if !ok {
			checkHint(t, m, []int{0}, 0, false, 0, false)
			continue
		}
		won++
		taken, _ := plainTaken(m, way)
		for i := range way {
			colours := 0
			for c := range 6 {
				if has(taken[len(way)-1], c) && !has(taken[i], c) {
					colours += power2(c)
				}
			}
			if i == len(way)-1 {
				checkHint(t, m, way, 0, false, 0, true)
			} else {
				checkHint(t, m, way[:i+1], way[i+1], true, colours, true)
			}
		}
	}
	if won < 100 {
		t.Error("too few Mazes are won:", won)
	}
	// A long walk, and one in a Maze with all limits.
	checkHint(t, farMaze(), slices.Repeat([]int{0, 1}, 3000), 2, true, 31, true)
	checkHint(t, wideMaze(), []int{0, 3, 7, 3}, 5, true, 63-4, true)
}

func TestHintsOfNoKeyWalk(t *testing.T) {
	m := mazeOf("4 0,1,0,0 0-1-0 0-3-1 1-2-0")
	for _, walk := range [][]int{
		nil, {}, {1}, {1, 0}, {-1}, {4}, {3}, {0, 0}, {0, 1, 1}, {0, 2}, {0, 3}, {0, 3, 0}, {0, 1, 3}, {0, 4}, {0, -1}, {0, 1, 0, 2},
		{0, 1, 64}, {0, math.MaxInt}, {0, math.MinInt}, {math.MaxInt}, {math.MinInt}, {0, 1, 0, 3, 3},
	} {
		checkHint(t, m, walk, 0, false, 0, false)
	}
	checkHint(t, m, []int{0, 1, 0}, 3, true, 0, true)
	checkHint(t, mazeOf("1 0"), []int{0, 0}, 0, false, 0, false)
	checkHint(t, mazeOf("1 63"), nil, 0, false, 0, false)
}

// A set that is one too great or negative fails like one that is far away.
func TestNeedsWithNoSet(t *testing.T) {
	for _, m := range []impl.Maze{mazeOf("1 0"), mazeOf("2 63,63 0-1-0"), mazeOf("2 0,0"), chain(7), wideMaze(), fullMaze()} {
		for _, set := range append(noNumbers, 65, 127, 128) {
			if wins, ok := impl.SetWins(m, set); wins || ok {
				t.Error("SetWins", textOf(m), set, wins, ok)
			}
			if bars, ok := impl.SetBars(m, set); bars || ok {
				t.Error("SetBars", textOf(m), set, bars, ok)
			}
		}
	}
}

func TestNeedsOfNoMaze(t *testing.T) {
	for _, odd := range oddMazes() {
		for name, function := range map[string]func(impl.Maze) ([]int, bool){
			"LeastWins": impl.LeastWins, "LeastBars": impl.LeastBars, "PowerOfColours": impl.PowerOfColours,
		} {
			got, ok := function(odd)
			wantNoList(t, name+" of no Maze", got, ok)
		}
		for name, function := range map[string]func(impl.Maze) (int, bool){
			"CountWinning": impl.CountWinning, "NeededColours": impl.NeededColours, "IdleColours": impl.IdleColours,
			"HintAt":      func(m impl.Maze) (int, bool) { return impl.HintAt(m, []int{0}) },
			"HintColours": func(m impl.Maze) (int, bool) { return impl.HintColours(m, []int{0}) },
		} {
			got, ok := function(odd)
			wantInt(t, name+" of no Maze", got, ok, 0, false)
		}
		for name, function := range map[string]func(impl.Maze, int) (bool, bool){"SetWins": impl.SetWins, "SetBars": impl.SetBars} {
			for _, set := range []int{0, 1, 63, 64, -1} {
				if got, ok := function(odd, set); got || ok {
					t.Error(name, "of no Maze", set, got, ok)
				}
			}
		}
	}
}

func TestNeedsAreTotal(t *testing.T) {
	numbers := []int{0, 1, 2, 5, 11, 12, 63, 64, -1, math.MaxInt, math.MinInt}
	listed := [][]int{
		nil, {}, {0}, {0, 1}, {0, 1, 0}, {0, 3}, {0, 1, 2, 3, 4, 5, 6}, {1}, {12}, {0, 12}, {0, -1}, {math.MinInt}, {0, math.MaxInt},
		{1, 2}, {2, 1}, {3, 1, 7}, {4, 3}, {3, 12}, {63}, {64}, {-1}, setsOfSize(3), append(setsOfSize(3), 63), slices.Repeat([]int{5, 3}, 40),
	}
	mazes := append(oddMazes(), mazeOf("1 0"), mazeOf("2 0,0"), mazeOf("2 1,0 0-1-1"), mazeOf("4 9,9,9,9 0-1-63 0-3-8 2-3-5"), chain(7), farMaze(), wideMaze(), fullMaze())
	checkTotal(t, []named{
		{"SetWins", impl.SetWins}, {"LeastWins", impl.LeastWins}, {"LeastBars", impl.LeastBars}, {"SetBars", impl.SetBars},
		{"CountWinning", impl.CountWinning}, {"PowerOfColours", impl.PowerOfColours}, {"NeededColours", impl.NeededColours}, {"IdleColours", impl.IdleColours},
		{"IsClutter", impl.IsClutter}, {"ClutterOf", impl.ClutterOf}, {"DualOf", impl.DualOf}, {"MeetsAll", impl.MeetsAll},
		{"HintAt", impl.HintAt}, {"HintColours", impl.HintColours},
	}, []any{mazes, numbers, listed})
}
