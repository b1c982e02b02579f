package tests

import (
	"fmt"
	"math"
	"math/rand"
	"slices"
	"testing"

	"loop.example/g01158/impl"
)

func TestLimitOfLocks(t *testing.T) {
	if impl.MaxLocks != 10 {
		t.Error("MaxLocks", impl.MaxLocks)
	}
}

// noKeys is what LockNeeds and KeysLeft show where there is nothing to count.
const noKeys = "0,0,0,0,0,0"

// plainLocks returns the numbers of all doors with a need.
func plainLocks(m impl.Maze) []int {
	locks := []int{}
	for k, d := range m.Doors {
		if d[2] != 0 {
			locks = append(locks, k)
		}
	}
	return locks
}

// plainNear returns all nodes that are near when some locks have been opened: those that can be
// reached in a Maze without the other locks, and without needs.
func plainNear(m impl.Maze, locks []int) []int {
	open := impl.Maze{Size: m.Size}
	for k, d := range m.Doors {
		if d[2] == 0 || slices.Contains(locks, k) {
			open.Doors = append(open.Doors, [3]int{d[0], d[1], 0})
		}
	}
	return plainReach(open, 0, 0)
}

// plainLeft counts the keys at near nodes, colour by colour, less those that were taken for locks.
func plainLeft(m impl.Maze, near []int, locks []int) []int {
	left := []int{}
	for c := range 6 {
		count := 0
		for _, x := range near {
			if has(m.Keys[x], c) {
				count++
			}
		}
		for _, k := range locks {
			if has(m.Doors[k][2], c) {
				count--
			}
		}
		left = append(left, count)
	}
	return left
}

// behind is what there is behind an opening.
type behind struct {
	list             []int
	near, left, next []int
	wins             bool
}

// plainBehind returns what there is behind a list of locks that is known to be an opening.
func plainBehind(m impl.Maze, list []int) behind {
	near := plainNear(m, list)
	b := behind{list: list, near: near, left: plainLeft(m, near, list), wins: slices.Contains(near, m.Size-1)}
	for _, k := range plainLocks(m) {
		d := m.Doors[k]
		isUnpaid := func(c int) bool { return b.left[c] < 1 }
		if slices.Contains(list, k) || !slices.Contains(near, d[0]) && !slices.Contains(near, d[1]) {
			continue
		}
		if !slices.ContainsFunc(plainColours(d[2]), isUnpaid) {
			b.next = append(b.next, k)
		}
	}
	return b
}

// plainOpening returns what there is behind a list of any numbers, and whether it is an opening.
func plainOpening(m impl.Maze, list []int) (behind, bool) {
	b := plainBehind(m, nil)
	for i, k := range list {
		if !slices.Contains(b.next, k) {
			return behind{}, false
		}
		b = plainBehind(m, list[:i+1])
	}
	return b, true
}

// plainOpenings returns all openings, by their lengths and then lexicographically.
func plainOpenings(m impl.Maze) []behind {
	all := []behind{plainBehind(m, nil)}
	for i := 0; i < len(all); i++ {
		for _, k := range all[i].next {
			all = append(all, plainBehind(m, append(slices.Clone(all[i].list), k)))
		}
	}
	return all
}

// plainFirstOpenings returns, for each set of locks that openings open, the first one of these. For
// each set it looks at all locks that may have been opened last.
func plainFirstOpenings(m impl.Maze) []behind {
	locks := plainLocks(m)
	table := make([]*behind, power2(len(locks)))
	first := plainBehind(m, nil)
	table[0] = &first
	all := []behind{first}
	for set := range table {
		var least []int
		for i, k := range locks {
			if !has(set, i) || table[set-power2(i)] == nil {
				continue
			}
			before := *table[set-power2(i)]
			list := append(slices.Clone(before.list), k)
			if slices.Contains(before.next, k) && (least == nil || slices.Compare(list, least) < 0) {
				least = list
			}
		}
		if least != nil {
			b := plainBehind(m, least)
			table[set] = &b
			all = append(all, b)
		}
	}
	return inOpeningOrder(all)
}

func inOpeningOrder(all []behind) []behind {
	slices.SortFunc(all, func(a, b behind) int {
		if len(a.list) != len(b.list) {
			return len(a.list) - len(b.list)
		}
		return slices.Compare(a.list, b.list)
	})
	return all
}

// none stands for the list of a function that fails; the list without numbers is the empty text.
const none = "none"

// spent is what the functions of the chapter tell of a Maze without an opening.
type spent struct {
	locks, win, stuck string
	safe              bool
	states            int
	all               bool
	needs             string
}

// plainSpent tells it from all openings in order, or from the first ones for each set of locks.
func plainSpent(m impl.Maze, openings []behind) spent {
	locks := plainLocks(m)
	want := spent{locks: commas(locks), win: none, stuck: none, safe: true}
	needs := []int{}
	for c := range 6 {
		count := 0
		for _, k := range locks {
			if has(m.Doors[k][2], c) {
				count++
			}
		}
		needs = append(needs, count)
	}
	want.needs = commas(needs)
	states := map[string]bool{}
	for _, b := range openings {
		states[commas(sorted(b.list))] = true
		if b.wins && want.win == none {
			want.win = commas(b.list)
		}
		if !b.wins && len(b.next) == 0 {
			if want.stuck == none {
				want.stuck = commas(b.list)
			}
			want.safe = false
		}
		if len(b.list) == len(locks) {
			want.all = true
		}
	}
	want.states = len(states)
	return want
}

func listOrNone(list []int, ok bool) string {
	if !ok && len(list) == 0 {
		return none
	}
	return commas(list)
}

// toldSpent returns what the package tells.
func toldSpent(t *testing.T, m impl.Maze) spent {
	t.Helper()
	locks, locksOK := impl.LocksOf(m)
	win := listOrNone(impl.FirstWin(m))
	stuck := listOrNone(impl.FirstStuck(m))
	safe, safeOK := impl.IsSafe(m)
	states, statesOK := impl.CountStates(m)
	all, allOK := impl.AllOpened(m)
	needs, needsOK := impl.LockNeeds(m)
	if !locksOK || !safeOK || !statesOK || !allOK || !needsOK {
		t.Fatal("spent keys of", textOf(m), locksOK, safeOK, statesOK, allOK, needsOK)
	}
	return spent{commas(locks), win, stuck, safe, states, all, commas(needs)}
}

// checkSpent holds the functions of a Maze against what they must return.
func checkSpent(t *testing.T, m impl.Maze, want spent) {
	t.Helper()
	if got := toldSpent(t, m); got != want {
		t.Errorf("spent keys of %s = %+v; want %+v", textOf(m), got, want)
	}
}

// mostListed is the greatest number of locks of Mazes all of whose openings are listed.
const mostListed = 5

// checkPlainSpent holds them against all openings, as long as these are not too many.
func checkPlainSpent(t *testing.T, m impl.Maze) spent {
	t.Helper()
	want := plainSpent(m, plainFirstOpenings(m))
	if len(plainLocks(m)) <= mostListed {
		want = plainSpent(m, plainOpenings(m))
	}
	checkSpent(t, m, want)
	return want
}

// plainCanWin reports whether some opening wins that begins with one. What was seen before did not
// win.
func plainCanWin(m impl.Maze, b behind, seen map[string]bool) bool {
	key := commas(sorted(b.list))
	if b.wins || seen[key] {
		return b.wins
	}
	seen[key] = true
	return slices.ContainsFunc(b.next, func(k int) bool {
		return plainCanWin(m, plainBehind(m, append(slices.Clone(b.list), k)), seen)
	})
}

// plainHopeful returns what HopefulLocks must for an opening.
func plainHopeful(m impl.Maze, b behind) string {
	if b.wins {
		return none
	}
	hopeful := []int{}
	for _, k := range b.next {
		if plainCanWin(m, plainBehind(m, append(slices.Clone(b.list), k)), map[string]bool{}) {
			hopeful = append(hopeful, k)
		}
	}
	return commas(hopeful)
}

// told is what the functions of a Maze and an opening tell.
type told struct {
	near, left, next string
	wins             bool
	hopeful          string
}

// checkBehind holds the functions of an opening against what they must return.
func checkBehind(t *testing.T, m impl.Maze, list []int, want told) {
	t.Helper()
	if is, ok := impl.IsOpening(m, list); !is || !ok {
		t.Errorf("IsOpening of %s, %v = %v, %v; want true, true", textOf(m), list, is, ok)
	}
	wins, ok := impl.WinsBy(m, list)
	if !ok {
		t.Errorf("WinsBy of %s, %v fails", textOf(m), list)
	}
	got := told{
		near: listOrNone(impl.NearNodes(m, list)), left: listOrNone(impl.KeysLeft(m, list)), next: listOrNone(impl.NextLocks(m, list)),
		wins: wins, hopeful: listOrNone(impl.HopefulLocks(m, list)),
	}
	if got != want {
		t.Errorf("behind %v in %s: %+v; want %+v", list, textOf(m), got, want)
	}
}

// checkNoOpening checks that a list is told to be no opening of a Maze that is valid.
func checkNoOpening(t *testing.T, m impl.Maze, list []int) {
	t.Helper()
	if is, ok := impl.IsOpening(m, list); is || !ok {
		t.Errorf("IsOpening of %s, %v = %v, %v; want false, true", textOf(m), list, is, ok)
	}
	checkOpeningFails(t, m, list)
}

// checkOpeningFails checks that all functions of a Maze and an opening fail, other than IsOpening.
func checkOpeningFails(t *testing.T, m impl.Maze, list []int) {
	t.Helper()
	for name, function := range map[string]func(impl.Maze, []int) ([]int, bool){
		"NearNodes": impl.NearNodes, "KeysLeft": impl.KeysLeft, "NextLocks": impl.NextLocks, "HopefulLocks": impl.HopefulLocks,
	} {
		got, ok := function(m, list)
		wantNoList(t, fmt.Sprint(name, " of ", textOf(m), ", ", list), got, ok)
	}
	if wins, ok := impl.WinsBy(m, list); wins || ok {
		t.Errorf("WinsBy of %s, %v = %v, %v; want a failure", textOf(m), list, wins, ok)
	}
}

// checkOpening checks all functions of a valid Maze and a list of any numbers.
func checkOpening(t *testing.T, m impl.Maze, list []int) bool {
	t.Helper()
	b, is := plainOpening(m, list)
	if !is {
		checkNoOpening(t, m, list)
		return false
	}
	checkBehind(t, m, list, told{commas(b.near), commas(b.left), commas(b.next), b.wins, plainHopeful(m, b)})
	return true
}

func TestSpentKeysOfGivenMazes(t *testing.T) {
	for _, c := range []struct {
		text string
		want spent
	}{
		// A Maze of one node, whose goal is near at first.
		{"1 0", spent{"", "", none, true, 1, true, noKeys}},
		{"1 63", spent{"", "", none, true, 1, true, noKeys}},
		// Mazes without locks: no door, and doors that are always open.
		{"2 0,0", spent{"", none, "", false, 1, true, noKeys}},
		{"2 63,63", spent{"", none, "", false, 1, true, noKeys}},
		{"2 0,0 0-1-0", spent{"", "", none, true, 1, true, noKeys}},
		{"3 63,63,63 0-1-0 1-2-0", spent{"", "", none, true, 1, true, noKeys}},
		{"4 1,1,1,1 0-1-0 2-3-0", spent{"", none, "", false, 1, true, noKeys}},
		{"4 0,0,0,0 0-3-0 1-2-0 1-3-0", spent{"", "", none, true, 1, true, noKeys}},
		// Locks without keys, a key that lies behind its own lock, and one of another colour.
		{"2 0,0 0-1-1", spent{"0", none, "", false, 1, false, "1,0,0,0,0,0"}},
		{"2 0,0 0-1-63", spent{"0", none, "", false, 1, false, "1,1,1,1,1,1"}},
		{"3 0,0,0 0-1-1 0-2-33 1-2-2", spent{"0,1,2", none, "", false, 1, false, "2,1,0,0,0,1"}},
		{"2 0,1 0-1-1", spent{"0", none, "", false, 1, false, "1,0,0,0,0,0"}},
		{"2 62,0 0-1-1", spent{"0", none, "", false, 1, false, "1,0,0,0,0,0"}},
		// One lock with its key.
		{"2 1,0 0-1-1", spent{"0", "0", none, true, 2, true, "1,0,0,0,0,0"}},
		{"2 32,0 0-1-32", spent{"0", "0", none, true, 2, true, "0,0,0,0,0,1"}},
		// A lock beside a door without a need, with and without a key for it: both its nodes are near.
		{"2 0,0 0-1-0 0-1-1", spent{"1", "", none, true, 1, false, "1,0,0,0,0,0"}},
		{"2 1,0 0-1-0 0-1-1", spent{"1", "", none, true, 2, true, "1,0,0,0,0,0"}},
		{"2 0,1 0-1-0 0-1-1", spent{"1", "", none, true, 2, true, "1,0,0,0,0,0"}},
		{"3 1,0,0 0-1-0 0-1-1 1-2-1", spent{"1,2", "2", "1", false, 3, false, "2,0,0,0,0,0"}},
		// One key for two locks.
		{"3 1,0,0 0-1-1 0-2-1", spent{"0,1", "1", "0", false, 3, false, "2,0,0,0,0,0"}},
		{"3 1,0,0 0-1-1 1-2-1", spent{"0,1", none, "0", false, 2, false, "2,0,0,0,0,0"}},
		{"4 1,0,0,0 0-1-1 0-2-1", spent{"0,1", none, "0", false, 3, false, "2,0,0,0,0,0"}},
		// A need of several colours: all left, only one of them left, and one that was taken.
		{"2 3,0 0-1-3", spent{"0", "0", none, true, 2, true, "1,1,0,0,0,0"}},
		{"2 1,0 0-1-3", spent{"0", none, "", false, 1, false, "1,1,0,0,0,0"}},
		{"2 63,0 0-1-63", spent{"0", "0", none, true, 2, true, "1,1,1,1,1,1"}},
		{"2 31,0 0-1-63", spent{"0", none, "", false, 1, false, "1,1,1,1,1,1"}},
		{"3 3,0,0 0-1-1 0-2-3", spent{"0,1", "1", "0", false, 3, false, "2,1,0,0,0,0"}},
		{"4 3,0,0,0 0-1-1 0-2-3 2-3-2", spent{"0,1,2", none, "0", false, 3, false, "2,2,0,0,0,0"}},
		// Keys of one colour at several nodes.
		{"3 1,1,0 0-1-0 0-1-1 1-2-1", spent{"1,2", "2", none, true, 4, true, "2,0,0,0,0,0"}},
		{"3 1,1,0 0-1-1 1-2-1", spent{"0,1", "0,1", none, true, 3, true, "2,0,0,0,0,0"}},
		{"4 1,1,1,0 0-1-0 0-2-1 0-3-1 1-3-1", spent{"1,2,3", "2", none, true, 8, true, "3,0,0,0,0,0"}},
		{"5 1,1,0,0,0 0-1-0 0-2-1 0-3-1 0-4-1", spent{"1,2,3", "3", "1,2", false, 7, false, "3,0,0,0,0,0"}},
		// A shorter opening is before a lesser one; a list may have to go down.
		{"3 5,2,0 0-1-1 0-2-4 1-2-2", spent{"0,1,2", "1", none, true, 6, true, "1,1,1,0,0,0"}},
		{"4 1,0,2,0 0-1-2 0-2-1 1-3-0", spent{"0,1", "1,0", none, true, 3, true, "1,1,0,0,0,0"}},
		{"4 3,4,8,0 0-1-1 0-2-2 0-3-12", spent{"0,1,2", "0,1,2", none, true, 5, true, "1,1,1,1,0,0"}},
		// A lock that is opened from its greater node.
		{"3 1,0,0 0-2-0 1-2-1", spent{"1", "", none, true, 2, true, "1,0,0,0,0,0"}},
		{"4 1,1,0,0 0-2-1 1-2-0 1-3-1", spent{"0,2", "0,2", none, true, 3, true, "2,0,0,0,0,0"}},
		// Two locks between the same nodes.
		{"2 3,0 0-1-1 0-1-2", spent{"0,1", "0", none, true, 4, true, "1,1,0,0,0,0"}},
		{"3 3,0,0 0-1-1 0-1-2 1-2-1", spent{"0,1,2", "1,2", "0,1", false, 5, false, "2,1,0,0,0,0"}},
	} {
		m := mazeOf(c.text)
		checkSpent(t, m, c.want)
		checkPlainSpent(t, m)
	}
}

func TestOpeningsOfGivenMazes(t *testing.T) {
	first := "4 0,1,2,0 0-1-0 0-2-1 2-3-2"
	waste := "5 1,1,0,0,0 0-1-0 0-2-1 0-3-1 0-4-1"
	two := "4 3,4,8,0 0-1-1 0-2-2 0-3-12"
	for _, c := range []struct {
		text string
		list []int
		want told
	}{
		{"1 0", nil, told{"0", noKeys, "", true, none}},
		{"1 63", []int{}, told{"0", "1,1,1,1,1,1", "", true, none}},
		{"2 0,0", nil, told{"0", noKeys, "", false, ""}},
		{"2 1,3 0-1-0", nil, told{"0,1", "2,1,0,0,0,0", "", true, none}},
		{"2 1,0 0-1-0 0-1-1", nil, told{"0,1", "1,0,0,0,0,0", "1", true, none}},
		{"2 1,0 0-1-0 0-1-1", []int{1}, told{"0,1", noKeys, "", true, none}},
		{"2 1,0 0-1-3", nil, told{"0", "1,0,0,0,0,0", "", false, ""}},
		{first, nil, told{"0,1", "1,0,0,0,0,0", "1", false, "1"}},
		{first, []int{1}, told{"0,1,2", "0,1,0,0,0,0", "2", false, "2"}},
		{first, []int{1, 2}, told{"0,1,2,3", noKeys, "", true, none}},
		// Both keys may be wasted; behind an opening that wins there may be another lock.
		{waste, nil, told{"0,1", "2,0,0,0,0,0", "1,2,3", false, "1,2,3"}},
		{waste, []int{1}, told{"0,1,2", "1,0,0,0,0,0", "2,3", false, "3"}},
		{waste, []int{2}, told{"0,1,3", "1,0,0,0,0,0", "1,3", false, "3"}},
		{waste, []int{1, 2}, told{"0,1,2,3", noKeys, "", false, ""}},
		{waste, []int{2, 1}, told{"0,1,2,3", noKeys, "", false, ""}},
		{waste, []int{3}, told{"0,1,4", "1,0,0,0,0,0", "1,2", true, none}},
		{waste, []int{3, 1}, told{"0,1,2,4", noKeys, "", true, none}},
		{waste, []int{1, 3}, told{"0,1,2,4", noKeys, "", true, none}},
		{two, []int{0}, told{"0,1", "0,1,1,0,0,0", "1", false, "1"}},
		{two, []int{1}, told{"0,2", "1,0,0,1,0,0", "0", false, "0"}},
		{two, []int{1, 0}, told{"0,1,2", "0,0,1,1,0,0", "2", false, "2"}},
		// The goal cannot be reached, so nothing is hopeful.
		{"4 1,0,0,0 0-1-1 0-2-1", nil, told{"0", "1,0,0,0,0,0", "0,1", false, ""}},
		{"4 1,0,0,0 0-1-1 0-2-1", []int{1}, told{"0,2", noKeys, "", false, ""}},
		// A lock that is near at one of its nodes only, and one whose both nodes are near.
		{"4 1,1,0,0 0-2-1 1-2-0 1-3-1", []int{0}, told{"0,1,2", "1,0,0,0,0,0", "2", false, "2"}},
		{"3 1,0,0 0-1-0 0-1-1 1-2-1", nil, told{"0,1", "1,0,0,0,0,0", "1,2", false, "2"}},
		{"3 1,0,0 0-1-0 0-1-1 1-2-1", []int{1}, told{"0,1", noKeys, "", false, ""}},
	} {
		checkBehind(t, mazeOf(c.text), c.list, c.want)
		if !checkOpening(t, mazeOf(c.text), c.list) {
			t.Error("no opening", c.text, c.list)
		}
	}
}

func TestOpeningsOfNoOpening(t *testing.T) {
	// Locks 1..3 with two keys, and lock 4 that is far behind lock 1.
	m := mazeOf("6 1,1,2,0,0,0 0-1-0 0-2-1 0-3-1 0-5-1 2-4-2")
	for _, list := range [][]int{
		// A door that is no lock, in front, behind, and in between.
		{0}, {1, 0}, {0, 1}, {1, 0, 4},
		// The same lock twice.
		{1, 1}, {2, 2}, {1, 4, 1}, {1, 4, 4}, {1, 2, 1},
		// A lock that is not near when its turn comes, and one that is not paid for.
		{4}, {4, 1}, {2, 4}, {2, 4, 1}, {1, 2, 3}, {3, 2, 1}, {1, 4, 2, 3}, {1, 2, 4, 3},
		// Numbers of no door.
		{5}, {1, 5}, {-1}, {1, -1}, {-1, 1}, {6}, {1, 4, 30}, {1, 4, -30},
		{math.MaxInt}, {math.MinInt}, {1, math.MaxInt}, {1, math.MinInt}, {1 << 32}, {1 + 1<<32}, {1, 4 + 1<<32},
	} {
		checkNoOpening(t, m, list)
		checkOpening(t, m, list)
	}
	for _, list := range [][]int{{}, {1}, {1, 4}, {1, 4, 2}, {1, 2, 4}, {2, 1, 4}, {3, 1, 4}} {
		if !checkOpening(t, m, list) {
			t.Error("no opening", list)
		}
	}
	// Long lists, and places behind the last door.
	for _, list := range [][]int{slices.Repeat([]int{1}, 3000), slices.Repeat([]int{1, 4, 2}, 1000), append([]int{1, 4, 2}, slices.Repeat([]int{0}, 40)...)} {
		checkNoOpening(t, m, list)
	}
	for _, text := range []string{"1 0", "1 63", "2 63,63", "2 63,63 0-1-0"} {
		for k := -2; k <= 31; k++ {
			checkNoOpening(t, mazeOf(text), []int{k})
		}
	}
	for _, n := range noNumbers {
		checkNoOpening(t, starOfLocks(), []int{n})
		checkNoOpening(t, starOfLocks(), []int{9, n})
	}
}

func TestOpeningsOfAllLists(t *testing.T) {
	openings, others := 0, 0
	for _, text := range []string{
		"1 0", "2 0,0", "2 1,0 0-1-1", "2 3,0 0-1-0 0-1-1 0-1-2", "2 1,1 0-1-0 0-1-1 0-1-3", "3 1,0,0 0-1-1 0-2-1", "3 1,1,0 0-1-1 1-2-1",
		"4 0,1,2,0 0-1-0 0-2-1 2-3-2", "4 1,0,2,0 0-1-2 0-2-1 1-3-0", "4 3,4,8,0 0-1-1 0-2-2 0-3-12", "4 1,1,1,0 0-1-0 0-2-1 0-3-1 1-3-1",
		"4 3,2,1,0 0-1-1 0-2-2 1-2-3 1-3-2", "3 0,0,0 0-1-1 0-2-2 1-2-4",
	} {
		m := mazeOf(text)
		lists(-1, len(m.Doors), 4, func(list []int) {
			if checkOpening(t, m, list) {
				openings++
			} else {
				others++
			}
		})
	}
	if openings < 50 || others < 1000 {
		t.Error("too few openings or other lists:", openings, others)
	}
}

// lockMazes returns Mazes of at most some locks: these lie between near nodes, which have numbers
// in any order, and need one or two colours, of which some keys are there, often too few.
func lockMazes(r *rand.Rand, count int, mostLocks int) []impl.Maze {
	mazes := []impl.Maze{}
	for len(mazes) < count {
		colours := 1 + r.Intn(3)
		m := impl.Maze{Size: 3 + r.Intn(5)}
		order := []int{0}
		for _, n := range r.Perm(m.Size - 2) {
			order = append(order, n+1)
		}
		order = append(order, m.Size-1)
		for range m.Size {
			m.Keys = append(m.Keys, r.Intn(power2(colours)))
		}
		for range mostLocks + r.Intn(3) {
			i := r.Intn(m.Size - 1)
			a, b := order[i], order[min(i+1+r.Intn(2), m.Size-1)]
			need := power2(r.Intn(colours)) | r.Intn(power2(colours))&r.Intn(power2(colours))
			if r.Intn(6) == 0 {
				need = 0
			}
			m.Doors = append(m.Doors, [3]int{min(a, b), max(a, b), need})
		}
		m.Doors = sortedDoors(m.Doors)
		if len(plainLocks(m)) <= mostLocks {
			mazes = append(mazes, m)
		}
	}
	return mazes
}

// spentMazes returns Mazes of at most MaxLocks locks, most of which have all openings listed.
func spentMazes() []impl.Maze {
	r := newRandom()
	mazes := append(lockMazes(r, 1200, mostListed), lockMazes(r, 80, impl.MaxLocks)...)
	for _, m := range append(someMazes(150), largeMazes(150)...) {
		if len(plainLocks(m)) <= impl.MaxLocks {
			mazes = append(mazes, m)
		}
	}
	return mazes
}

func TestSpentKeysOfManyMazes(t *testing.T) {
	safe, both, lost, long, goingDown := 0, 0, 0, 0, 0
	for _, m := range spentMazes() {
		want := checkPlainSpent(t, m)
		switch {
		case want.safe:
			safe++
		case want.win != none:
			both++
		default:
			lost++
		}
		if len(want.win) > 3 && want.win != none {
			long++
		}
		if win, ok := impl.FirstWin(m); ok && !slices.IsSorted(win) {
			goingDown++
		}
	}
	if safe < 200 || both < 50 || lost < 200 || long < 15 || goingDown < 5 {
		t.Error("too few Mazes are safe, or won and stuck, or lost, or won by long lists, or by lists that go down:", safe, both, lost, long, goingDown)
	}
}

func TestOpeningsOfManyMazes(t *testing.T) {
	r := newRandom()
	for _, m := range spentMazes() {
		openings := plainFirstOpenings(m)
		for range min(12, len(openings)) {
			list := slices.Clone(openings[r.Intn(len(openings))].list)
			if !checkOpening(t, m, list) {
				t.Fatal("no opening", textOf(m), list)
			}
			r.Shuffle(len(list), func(i, j int) { list[i], list[j] = list[j], list[i] })
			checkOpening(t, m, list)
			checkOpening(t, m, append(list, r.Intn(len(m.Doors)+2)-1))
		}
	}
}

// starOfLocks returns a Maze with MaxLocks locks and keys for all of them, that can be opened in
// any order: each one leads from a near node to the goal.
func starOfLocks() impl.Maze {
	m := impl.Maze{Size: impl.MaxNodes, Keys: make([]int, impl.MaxNodes)}
	for x := range impl.MaxLocks {
		m.Keys[x] = 1
		m.Doors = append(m.Doors, [3]int{x, 11, 1})
		if x > 0 {
			m.Doors = append(m.Doors, [3]int{0, x, 0})
		}
	}
	m.Doors = sortedDoors(m.Doors)
	return m
}

// rowOfLocks returns a Maze with size locks one behind the other, each with its key in front.
func rowOfLocks(size int) impl.Maze {
	m := impl.Maze{Size: size + 1}
	for x := range size {
		m.Keys = append(m.Keys, power2(x%6))
		m.Doors = append(m.Doors, [3]int{x, x + 1, power2(x % 6)})
	}
	m.Keys = append(m.Keys, 0)
	return m
}

// wideLocks returns a Maze with count locks and as many doors without needs as there may be.
func wideLocks(count int) impl.Maze {
	m := impl.Maze{Size: impl.MaxNodes, Keys: slices.Repeat([]int{63}, impl.MaxNodes)}
	for need := 1; need <= count; need++ {
		m.Doors = append(m.Doors, [3]int{0, 11, need})
	}
	for a := 1; len(m.Doors) < impl.MaxDoors; a++ {
		for b := a + 1; b < 11 && len(m.Doors) < impl.MaxDoors; b++ {
			m.Doors = append(m.Doors, [3]int{a, b, 0})
		}
	}
	m.Doors = sortedDoors(m.Doors)
	return m
}

func TestSpentKeysUpToTheLimits(t *testing.T) {
	star := starOfLocks()
	locks, _ := impl.LocksOf(star)
	if len(locks) != impl.MaxLocks {
		t.Fatal("locks of", textOf(star), locks)
	}
	checkSpent(t, star, spent{commas(locks), commas(locks[:1]), none, true, 1024, true, "10,0,0,0,0,0"})
	slices.Reverse(locks)
	checkBehind(t, star, locks, told{"0,1,2,3,4,5,6,7,8,9,11", noKeys, "", true, none})
	checkNoOpening(t, star, append(locks, locks[0]))
	// Node 10 can never be near, so that all openings of the star can be stuck in a Maze with it.
	lost, ok := impl.NumberMaze(star, []int{0, 1, 2, 3, 4, 5, 6, 7, 8, 9, 11, 10})
	if !ok {
		t.Fatal("NumberMaze", textOf(star))
	}
	slices.Sort(locks)
	checkSpent(t, lost, spent{commas(locks), none, commas(locks), false, 1024, true, "10,0,0,0,0,0"})
	checkBehind(t, lost, locks[:9], told{"0,1,2,3,4,5,6,7,8,9,10", "1,0,0,0,0,0", commas(locks[9:]), false, ""})
	for size := 1; size <= impl.MaxLocks; size++ {
		all := []int{}
		for k := range size {
			all = append(all, k)
		}
		m := rowOfLocks(size)
		got := toldSpent(t, m)
		want := spent{commas(all), commas(all), none, true, size + 1, true, got.needs}
		checkSpent(t, m, want)
		checkPlainSpent(t, m)
		checkBehind(t, m, all[:size-1], told{commas(all), keysOf(power2((size - 1) % 6)), commas(all[size-1:]), false, commas(all[size-1:])})
	}
	m := wideLocks(impl.MaxLocks)
	if len(m.Doors) != impl.MaxDoors {
		t.Fatal("doors of", textOf(m))
	}
	checkPlainSpent(t, m)
	for _, list := range [][]int{{}, {1}, {1, 3, 0}, {9}, {0, 1, 3, 2, 4, 5, 6, 7, 8, 9}} {
		checkOpening(t, m, list)
	}
	checkPlainSpent(t, wideMaze())
	checkPlainSpent(t, farMaze())
	checkPlainSpent(t, chain(7))
}

// keysOf shows one key of each colour of a set.
func keysOf(set int) string {
	keys := []int{}
	for c := range 6 {
		keys = append(keys, set/power2(c)%2)
	}
	return commas(keys)
}

// checkSpentFails checks that all functions fail for a Maze.
func checkSpentFails(t *testing.T, m impl.Maze) {
	t.Helper()
	for name, function := range map[string]func(impl.Maze) ([]int, bool){
		"LocksOf": impl.LocksOf, "FirstWin": impl.FirstWin, "FirstStuck": impl.FirstStuck, "LockNeeds": impl.LockNeeds,
	} {
		got, ok := function(m)
		wantNoList(t, name+" of "+shorten(textOf(m)), got, ok)
	}
	for name, function := range map[string]func(impl.Maze) (bool, bool){"IsSafe": impl.IsSafe, "AllOpened": impl.AllOpened} {
		if got, ok := function(m); got || ok {
			t.Errorf("%s of %s = %v, %v; want a failure", name, textOf(m), got, ok)
		}
	}
	states, ok := impl.CountStates(m)
	wantInt(t, "CountStates of "+shorten(textOf(m)), states, ok, 0, false)
	for _, list := range [][]int{nil, {}, {0}, {1}, {0, 1}, {10}, {-1}, {math.MaxInt}} {
		if is, ok := impl.IsOpening(m, list); is || ok {
			t.Errorf("IsOpening of %s, %v = %v, %v; want a failure", textOf(m), list, is, ok)
		}
		checkOpeningFails(t, m, list)
	}
}

func TestSpentKeysOfNoMaze(t *testing.T) {
	for _, odd := range oddMazes() {
		checkSpentFails(t, odd)
	}
}

func TestSpentKeysOfTooManyLocks(t *testing.T) {
	for count := impl.MaxLocks + 1; count <= impl.MaxDoors; count++ {
		checkSpentFails(t, wideLocks(count))
		needs := []int{}
		for need := range count + 1 {
			needs = append(needs, need)
		}
		checkSpentFails(t, gateMaze(needs[1:]))
	}
	// One lock more than there may be, in a Maze that is won at first.
	near := gateMaze([]int{0, 1, 2, 3, 4, 5, 6, 7, 8, 9, 10, 11})
	checkSpentFails(t, near)
	few, ok := impl.DropDoor(near, 11)
	if !ok {
		t.Fatal("DropDoor", textOf(near))
	}
	checkPlainSpent(t, few)
	checkSpentFails(t, fullMaze())
	failed := 0
	for _, m := range largeMazes(200) {
		if len(plainLocks(m)) > impl.MaxLocks {
			checkSpentFails(t, m)
			failed++
		}
	}
	if failed < 20 {
		t.Error("too few Mazes have too many locks:", failed)
	}
}

// Promise 7.
func TestSafeExactlyIfNoOpeningIsStuck(t *testing.T) {
	safe, stuck := 0, 0
	for _, m := range lockMazes(newRandom(), 1000, mostListed) {
		isSafe, ok := impl.IsSafe(m)
		if !ok {
			t.Fatal("IsSafe fails for", textOf(m))
		}
		someStuck := false
		for _, b := range plainOpenings(m) {
			wins, winsOK := impl.WinsBy(m, b.list)
			next, nextOK := impl.NextLocks(m, b.list)
			if !winsOK || !nextOK {
				t.Fatal("no opening", textOf(m), b.list)
			}
			someStuck = someStuck || !wins && len(next) == 0
		}
		_, found := impl.FirstStuck(m)
		if isSafe == someStuck || found != someStuck {
			t.Fatal("IsSafe of", textOf(m), isSafe, someStuck, found)
		}
		if isSafe {
			safe++
		} else {
			stuck++
		}
	}
	if safe < 100 || stuck < 100 {
		t.Error("too few Mazes are safe or not:", safe, stuck)
	}
}

// Promise 7.
func TestWonWithSpentKeysIsWonWithKeysThatStay(t *testing.T) {
	spentWon, onlyStay := 0, 0
	for _, m := range append(spentMazes(), lockMazes(newRandom(), 1500, impl.MaxLocks)...) {
		_, won := impl.FirstWin(m)
		stays, ok := impl.CanWin(m, 0)
		if !ok || won && !stays {
			t.Fatal("CanWin of", textOf(m), won, stays, ok)
		}
		if won {
			spentWon++
		} else if stays {
			onlyStay++
		}
	}
	if spentWon < 500 || onlyStay < 70 {
		t.Error("too few Mazes are won with spent keys, or only with keys that stay:", spentWon, onlyStay)
	}
}

// The guarantee of the chapter, and what is told beside single functions.
func TestSpentKeysGuarantee(t *testing.T) {
	for _, m := range append(spentMazes(), starOfLocks(), rowOfLocks(impl.MaxLocks), wideLocks(impl.MaxLocks), wideMaze(), farMaze()) {
		win, won := impl.FirstWin(m)
		if safe, ok := impl.IsSafe(m); !ok || safe && !won {
			t.Fatal("a safe Maze is not won", textOf(m), ok)
		}
		for i, k := range win {
			hopeful, ok := impl.HopefulLocks(m, win[:i])
			if !ok || !slices.Contains(hopeful, k) {
				t.Fatal("FirstWin of", textOf(m), win, "and HopefulLocks", i, hopeful, ok)
			}
		}
		if wins, ok := impl.WinsBy(m, win); won && (!wins || !ok) {
			t.Fatal("FirstWin of", textOf(m), win, wins, ok)
		}
		needs, ok := impl.LockNeeds(m)
		if !ok {
			t.Fatal("LockNeeds fails for", textOf(m))
		}
		for _, b := range plainFirstOpenings(m) {
			left, ok := impl.KeysLeft(m, b.list)
			for c := range 6 {
				if there := plainLeft(m, b.near, nil)[c]; !ok || left[c] < 0 || there-left[c] > needs[c] {
					t.Fatal("KeysLeft of", textOf(m), b.list, left, ok, needs)
				}
			}
		}
	}
}

// What is open tells all: openings of the same locks have the same behind them.
func TestOpeningsInAnotherOrder(t *testing.T) {
	pairs := 0
	for _, m := range lockMazes(newRandom(), 400, mostListed) {
		shown := map[string]string{}
		for _, b := range plainOpenings(m) {
			near, nearOK := impl.NearNodes(m, b.list)
			left, leftOK := impl.KeysLeft(m, b.list)
			next, nextOK := impl.NextLocks(m, b.list)
			wins, winsOK := impl.WinsBy(m, b.list)
			if !nearOK || !leftOK || !nextOK || !winsOK {
				t.Fatal("no opening", textOf(m), b.list)
			}
			hopeful := listOrNone(impl.HopefulLocks(m, b.list))
			text := fmt.Sprint(near, left, next, wins, hopeful)
			key := commas(sorted(b.list))
			if before, seen := shown[key]; seen {
				pairs++
				if before != text {
					t.Fatal("openings of", key, "in", textOf(m), before, text)
				}
			}
			shown[key] = text
		}
		if states, ok := impl.CountStates(m); !ok || states != len(shown) {
			t.Fatal("CountStates of", textOf(m), states, ok, len(shown))
		}
	}
	if pairs < 500 {
		t.Error("too few openings of the same locks:", pairs)
	}
}

func TestSpentKeysAreTotal(t *testing.T) {
	listed := [][]int{
		nil, {}, {0}, {1}, {0, 1}, {1, 0}, {0, 0}, {0, 1, 2, 3, 4, 5}, {2}, {9}, {10}, {11}, {30}, {-1}, {0, -1}, {math.MinInt}, {0, math.MaxInt},
		{0, 1, 2, 3, 4, 5, 6, 7, 8, 9, 10}, slices.Repeat([]int{0, 1}, 400),
	}
	mazes := append(oddMazes(), mazeOf("1 0"), mazeOf("1 63"), mazeOf("2 0,0"), mazeOf("2 1,0 0-1-1"), mazeOf("3 1,0,0 0-1-1 0-2-1"),
		mazeOf("4 9,9,9,9 0-1-63 0-3-8 2-3-5"), chain(7), farMaze(), wideMaze(), fullMaze(), starOfLocks(), rowOfLocks(10), wideLocks(10), wideLocks(11))
	checkTotal(t, []named{
		{"LocksOf", impl.LocksOf}, {"IsOpening", impl.IsOpening}, {"NearNodes", impl.NearNodes}, {"KeysLeft", impl.KeysLeft},
		{"NextLocks", impl.NextLocks}, {"WinsBy", impl.WinsBy}, {"FirstWin", impl.FirstWin}, {"FirstStuck", impl.FirstStuck},
		{"IsSafe", impl.IsSafe}, {"CountStates", impl.CountStates}, {"HopefulLocks", impl.HopefulLocks}, {"LockNeeds", impl.LockNeeds},
		{"AllOpened", impl.AllOpened},
	}, []any{mazes, listed})
}
