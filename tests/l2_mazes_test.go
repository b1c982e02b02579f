package tests

import (
	"fmt"
	"math"
	"math/rand"
	"regexp"
	"slices"
	"strings"
	"testing"

	"loop.example/g01158/impl"
)

// noNumbers are neither nodes nor sets nor places.
var noNumbers = []int{-1, 64, 1 << 32, math.MaxInt, math.MinInt, math.MinInt + 1, -64}

func TestLimitsOfMazes(t *testing.T) {
	if impl.MaxNodes != 12 || impl.MaxDoors != 30 || impl.MaxColours != 6 {
		t.Error("limits", impl.MaxNodes, impl.MaxDoors, impl.MaxColours)
	}
}

func TestIsMaze(t *testing.T) {
	for _, text := range []string{
		"1 0", "1 63", "2 0,0", "2 63,63 0-1-63", "2 0,0 0-1-0 0-1-1 0-1-2 0-1-63", "3 0,1,0 0-1-0 0-2-1 1-2-3",
		"3 0,0,0 0-1-63 0-2-0", "3 0,0,0 0-2-63 1-2-0", "12 0,1,2,4,8,16,32,0,0,0,0,63 0-11-0 10-11-63",
	} {
		if !impl.IsMaze(mazeOf(text)) {
			t.Errorf("IsMaze(%s) = false", text)
		}
	}
	for _, m := range oddMazes() {
		if impl.IsMaze(m) {
			t.Errorf("IsMaze(%s) = true", textOf(m))
		}
	}
	if !impl.IsMaze(fullMaze()) || len(fullMaze().Doors) != impl.MaxDoors || fullMaze().Size != impl.MaxNodes {
		t.Error("a Maze of MaxNodes nodes and MaxDoors doors")
	}
	if !impl.IsMaze(impl.Maze{Size: 1, Doors: [][3]int{}, Keys: []int{0}}) {
		t.Error("a Maze with an empty list of doors")
	}
}

func TestIsMazeOfNoNumbers(t *testing.T) {
	for _, n := range noNumbers {
		for place := range 3 {
			m := mazeOf("3 0,0,0 0-1-0")
			m.Doors[0][place] = n
			if impl.IsMaze(m) {
				t.Error("IsMaze of a door with", n, "at", place)
			}
			m = mazeOf("3 0,0,0 0-1-0")
			m.Keys[place] = n
			if impl.IsMaze(m) {
				t.Error("IsMaze of keys with", n, "at", place)
			}
		}
		m := mazeOf("3 0,0,0 0-1-0")
		m.Size = n
		if impl.IsMaze(m) {
			t.Error("IsMaze of the size", n)
		}
	}
}

// Every list of up to two doors out of all that are near to being valid is tried.
func TestIsMazeOfAllSmallMazes(t *testing.T) {
	doors := [][3]int{}
	for a := -1; a <= 2; a++ {
		for b := -1; b <= 2; b++ {
			for _, need := range []int{-1, 0, 1, 63, 64} {
				doors = append(doors, [3]int{a, b, need})
			}
		}
	}
	for size := 0; size <= 3; size++ {
		for keys := max(0, size-1); keys <= size+1; keys++ {
			for i := range doors {
				for j := range doors {
					m := impl.Maze{Size: size, Keys: make([]int, keys), Doors: [][3]int{doors[i], doors[j]}}
					if impl.IsMaze(m) != plainIsMaze(m) {
						t.Fatal("IsMaze", textOf(m))
					}
				}
			}
		}
	}
}

func TestSetOf(t *testing.T) {
	for _, c := range []struct {
		colours []int
		want    int
	}{
		{nil, 0}, {[]int{}, 0}, {[]int{0}, 1}, {[]int{5}, 32}, {[]int{2, 0}, 5}, {[]int{0, 2}, 5}, {[]int{3, 3, 3}, 8},
		{[]int{5, 4, 3, 2, 1, 0}, 63}, {[]int{1, 2, 1, 2, 1}, 6}, {slices.Repeat([]int{4, 1}, 5000), 18},
	} {
		got, ok := impl.SetOf(c.colours)
		wantInt(t, "SetOf("+shorten(commas(c.colours))+")", got, ok, c.want, true)
	}
	for _, colour := range append(noNumbers, 6, 7, 63, 65) {
		for _, list := range [][]int{{colour}, {0, colour}, {colour, 0}, {0, 1, 2, 3, 4, 5, colour}} {
			got, ok := impl.SetOf(list)
			wantInt(t, "SetOf("+commas(list)+")", got, ok, 0, false)
		}
	}
}

func TestColoursOf(t *testing.T) {
	for set := range 64 {
		want := []int{}
		for c := range 6 {
			if set/power2(c)%2 == 1 {
				want = append(want, c)
			}
		}
		got, ok := impl.ColoursOf(set)
		wantList(t, fmt.Sprint("ColoursOf ", set), got, ok, want)
		back, ok := impl.SetOf(got)
		wantInt(t, "SetOf("+commas(got)+")", back, ok, set, true)
	}
	for _, set := range append(noNumbers, 65, 127) {
		got, ok := impl.ColoursOf(set)
		wantNoList(t, fmt.Sprint("ColoursOf ", set), got, ok)
	}
}

func TestDoorsAt(t *testing.T) {
	m := mazeOf("4 0,1,0,0 0-1-0 0-1-2 0-2-1 1-2-3")
	for x, want := range [][]int{{0, 1, 2}, {0, 1, 3}, {2, 3}, {}} {
		got, ok := impl.DoorsAt(m, x)
		wantList(t, fmt.Sprint("DoorsAt ", x), got, ok, want)
	}
	for _, x := range append(noNumbers, 4) {
		got, ok := impl.DoorsAt(m, x)
		wantNoList(t, fmt.Sprint("DoorsAt ", x), got, ok)
	}
	for _, m := range largeMazes(300) {
		for x := range m.Size {
			want := []int{}
			for k, d := range m.Doors {
				if d[0] == x || d[1] == x {
					want = append(want, k)
				}
			}
			got, ok := impl.DoorsAt(m, x)
			wantList(t, fmt.Sprint("DoorsAt ", textOf(m), x), got, ok, want)
		}
	}
}

func TestIsOpenTo(t *testing.T) {
	for _, m := range append(someMazes(60), append(largeMazes(10), fullMaze())...) {
		for x := range m.Size {
			for y := range m.Size {
				for set := range 64 {
					got, ok := impl.IsOpenTo(m, x, y, set)
					if !ok || got != plainIsOpen(m, x, y, set) {
						t.Fatal("IsOpenTo", textOf(m), x, y, set, got, ok)
					}
				}
			}
		}
	}
}

func TestIsOpenToOfGivenDoors(t *testing.T) {
	m := mazeOf("3 0,0,0 0-1-3 0-1-4 1-2-0")
	for _, c := range []struct {
		x, y, set int
		want      bool
	}{
		{0, 1, 0, false}, {0, 1, 1, false}, {0, 1, 2, false}, {0, 1, 3, true}, {1, 0, 3, true}, {0, 1, 4, true}, {0, 1, 5, true},
		{0, 1, 56, false}, {0, 1, 63, true}, {1, 2, 0, true}, {2, 1, 0, true}, {0, 2, 63, false}, {0, 0, 63, false}, {1, 1, 0, false},
	} {
		got, ok := impl.IsOpenTo(m, c.x, c.y, c.set)
		if !ok || got != c.want {
			t.Error("IsOpenTo", c, got, ok)
		}
	}
	for _, n := range append(noNumbers, 3) {
		for _, c := range [][3]int{{n, 1, 3}, {0, n, 3}, {n, n, 3}} {
			if got, ok := impl.IsOpenTo(m, c[0], c[1], c[2]); got || ok {
				t.Error("IsOpenTo", c, got, ok)
			}
		}
	}
	for _, set := range noNumbers {
		if got, ok := impl.IsOpenTo(m, 1, 2, set); got || ok {
			t.Error("IsOpenTo of the set", set, got, ok)
		}
	}
}

func TestReachWith(t *testing.T) {
	for _, m := range append(someMazes(60), append(largeMazes(20), fullMaze())...) {
		for x := range m.Size {
			for set := range 64 {
				got, ok := impl.ReachWith(m, x, set)
				wantList(t, fmt.Sprint("ReachWith ", textOf(m), x, set), got, ok, plainReach(m, x, set))
			}
		}
	}
}

func TestReachWithOfGivenNodes(t *testing.T) {
	// Keys that lie on the way are not taken.
	m := mazeOf("5 0,1,0,0,0 0-1-0 1-3-1 2-3-0 2-4-0")
	for _, c := range []struct {
		x, set int
		want   []int
	}{
		{0, 0, []int{0, 1}}, {0, 1, []int{0, 1, 2, 3, 4}}, {1, 0, []int{0, 1}}, {4, 0, []int{2, 3, 4}}, {4, 62, []int{2, 3, 4}}, {3, 63, []int{0, 1, 2, 3, 4}},
	} {
		got, ok := impl.ReachWith(m, c.x, c.set)
		wantList(t, fmt.Sprint("ReachWith ", c), got, ok, c.want)
	}
	for _, n := range append(noNumbers, 5, 12) {
		got, ok := impl.ReachWith(m, n, 0)
		wantNoList(t, fmt.Sprint("ReachWith from ", n), got, ok)
	}
	for _, n := range noNumbers {
		got, ok := impl.ReachWith(m, 0, n)
		wantNoList(t, fmt.Sprint("ReachWith of the set ", n), got, ok)
	}
	alone, ok := impl.ReachWith(mazeOf("1 63"), 0, 0)
	wantList(t, "ReachWith of one node", alone, ok, []int{0})
}

func TestMoreColoursReachNoFewerNodes(t *testing.T) {
	for _, m := range append(someMazes(40), append(largeMazes(20), fullMaze())...) {
		for x := range m.Size {
			reached := [][]int{}
			for set := range 64 {
				nodes, ok := impl.ReachWith(m, x, set)
				if !ok || !slices.Contains(nodes, x) || !slices.IsSorted(nodes) {
					t.Fatal("ReachWith", textOf(m), x, set, nodes, ok)
				}
				reached = append(reached, nodes)
			}
			for more := range 64 {
				for set := range 64 {
					if set|more == more && !containsAll(reached[more], reached[set]) {
						t.Fatal("fewer nodes are reached with more colours:", textOf(m), x, set, more)
					}
				}
			}
		}
	}
}

func containsAll(list []int, others []int) bool {
	for _, n := range others {
		if !slices.Contains(list, n) {
			return false
		}
	}
	return true
}

// checkWalk checks IsKeyWalk and TakenOn for a list of any numbers.
func checkWalk(t *testing.T, m impl.Maze, walk []int) {
	t.Helper()
	want, wantOK := plainTaken(m, walk)
	is, ok := impl.IsKeyWalk(m, walk)
	if !ok || is != wantOK {
		t.Fatal("IsKeyWalk", textOf(m), walk, is, ok)
	}
	got, ok := impl.TakenOn(m, walk)
	if ok != wantOK || !slices.Equal(got, want) {
		t.Fatal("TakenOn", textOf(m), walk, got, ok)
	}
}

func TestKeyWalksOfSmallMazes(t *testing.T) {
	for _, m := range someMazes(60) {
		lists(-1, m.Size, 4, func(walk []int) { checkWalk(t, m, walk) })
	}
}

func TestKeyWalksOfGivenLists(t *testing.T) {
	m := mazeOf("4 1,2,4,0 0-1-1 0-2-2 1-2-3 2-3-7")
	for _, c := range []struct {
		walk []int
		want []int
	}{
		{[]int{0}, []int{1}}, {[]int{0, 1}, []int{1, 3}}, {[]int{0, 1, 0, 2}, []int{1, 3, 3, 7}}, {[]int{0, 1, 2, 3}, []int{1, 3, 7, 7}},
		{[]int{0, 1, 0, 1, 0}, []int{1, 3, 3, 3, 3}}, {[]int{0, 1, 2, 3, 2, 0}, []int{1, 3, 7, 7, 7, 7}},
	} {
		is, ok := impl.IsKeyWalk(m, c.walk)
		if !is || !ok {
			t.Error("IsKeyWalk", c.walk, is, ok)
		}
		got, ok := impl.TakenOn(m, c.walk)
		wantList(t, "TakenOn "+commas(c.walk), got, ok, c.want)
	}
	for _, walk := range [][]int{
		nil, {}, {1}, {3}, {0, 0}, {0, 2}, {0, 3}, {1, 0}, {0, 1, 1}, {0, 1, 3}, {0, 1, 0, 3}, {-1}, {4}, {0, -1}, {0, 4}, {0, 1, -1}, {0, 1, 64},
		{0, math.MinInt}, {0, math.MaxInt}, {math.MinInt, 0}, {0, 1, 0, 1 << 32}, {0, 1, 2, 3, 4},
	} {
		is, ok := impl.IsKeyWalk(m, walk)
		if is || !ok {
			t.Error("IsKeyWalk", walk, is, ok)
		}
		got, ok := impl.TakenOn(m, walk)
		wantNoList(t, "TakenOn "+commas(walk), got, ok)
	}
	for _, odd := range oddMazes() {
		if is, ok := impl.IsKeyWalk(odd, []int{0}); is || ok {
			t.Error("IsKeyWalk of no Maze", textOf(odd))
		}
	}
}

func TestLongKeyWalks(t *testing.T) {
	r := newRandom()
	for _, m := range append(largeMazes(100), fullMaze()) {
		walk := []int{0}
		for range 40 {
			sets, _ := plainTaken(m, walk)
			next := []int{}
			for y := range m.Size {
				if plainIsOpen(m, walk[len(walk)-1], y, sets[len(sets)-1]) {
					next = append(next, y)
				}
			}
			if len(next) > 0 {
				walk = append(walk, next[r.Intn(len(next))])
			}
		}
		checkWalk(t, m, walk)
		for y := range m.Size {
			checkWalk(t, m, append(slices.Clone(walk), y))
			other := slices.Clone(walk)
			other[r.Intn(len(other))] = y
			checkWalk(t, m, other)
		}
	}
	pair := mazeOf("2 1,2 0-1-1")
	checkWalk(t, pair, slices.Repeat([]int{0, 1}, 5000))
	checkWalk(t, pair, append(slices.Repeat([]int{0, 1}, 5000), 1))
}

func TestLeastNeeds(t *testing.T) {
	for _, c := range []struct {
		text string
		want []int
	}{
		{"2 0,0", nil}, {"2 0,0 0-1-0", []int{0}}, {"2 0,0 0-1-63", []int{63}}, {"2 0,0 0-1-0 0-1-1 0-1-63", []int{0}},
		{"2 0,0 0-1-1 0-1-2 0-1-3", []int{1, 2}}, {"2 0,0 0-1-3 0-1-5 0-1-6 0-1-7", []int{3, 5, 6}}, {"2 0,0 0-1-3 0-1-4 0-1-12", []int{3, 4}},
		{"2 0,0 0-1-5 0-1-6 0-1-8", []int{5, 6, 8}},
	} {
		for _, xy := range [][2]int{{0, 1}, {1, 0}} {
			got, ok := impl.LeastNeeds(mazeOf(c.text), xy[0], xy[1])
			wantList(t, "LeastNeeds of "+c.text, got, ok, c.want)
		}
	}
	m := mazeOf("3 0,0,0 0-1-1 0-2-2 1-2-3")
	same, ok := impl.LeastNeeds(m, 1, 1)
	wantList(t, "LeastNeeds of one node", same, ok, nil)
	for _, n := range append(noNumbers, 3) {
		for _, xy := range [][2]int{{0, n}, {n, 0}, {n, n}} {
			got, ok := impl.LeastNeeds(m, xy[0], xy[1])
			wantNoList(t, fmt.Sprint("LeastNeeds ", xy), got, ok)
		}
	}
}

// The least needs are all that tell to which sets a door is open, and none of them can be left out.
func TestLeastNeedsTellWhatIsOpen(t *testing.T) {
	r := newRandom()
	for range 200 {
		m := impl.Maze{Size: 3, Keys: []int{0, 0, 0}}
		for range r.Intn(impl.MaxDoors + 1) {
			pair := [][2]int{{0, 1}, {0, 1}, {0, 2}, {1, 2}}[r.Intn(4)]
			m.Doors = append(m.Doors, [3]int{pair[0], pair[1], r.Intn(64)})
		}
		m.Doors = sortedDoors(m.Doors)
		for x := range 3 {
			for y := range 3 {
				least, ok := impl.LeastNeeds(m, x, y)
				if !ok || !slices.IsSorted(least) {
					t.Fatal("LeastNeeds", textOf(m), x, y, least, ok)
				}
				for i, need := range least {
					for j, other := range least {
						if i != j && need&other == other {
							t.Fatal("LeastNeeds", textOf(m), x, y, least, "has a need too many")
						}
					}
					if door := [3]int{min(x, y), max(x, y), need}; !slices.Contains(m.Doors, door) {
						t.Fatal("LeastNeeds", textOf(m), x, y, least, "has no need of a door")
					}
				}
				for set := range 64 {
					open := slices.ContainsFunc(least, func(need int) bool { return set|need == set })
					if open != plainIsOpen(m, x, y, set) {
						t.Fatal("LeastNeeds", textOf(m), x, y, least, "does not tell of", set)
					}
				}
			}
		}
	}
}

// plainNumbered is a Maze with other numbers of nodes, colours or both.
func plainNumbered(m impl.Maze, nodes func(int) int, sets func(int) int) impl.Maze {
	made := impl.Maze{Size: m.Size, Keys: make([]int, m.Size)}
	for x := range m.Size {
		made.Keys[nodes(x)] = sets(m.Keys[x])
	}
	for _, d := range m.Doors {
		a, b := nodes(d[0]), nodes(d[1])
		made.Doors = append(made.Doors, [3]int{min(a, b), max(a, b), sets(d[2])})
	}
	made.Doors = sortedDoors(made.Doors)
	return made
}

func same(n int) int { return n }

func TestMirrorMaze(t *testing.T) {
	got, ok := impl.MirrorMaze(mazeOf("4 1,2,4,8 0-1-5 0-1-6 0-3-7 1-2-8 1-3-9"))
	wantMaze(t, "MirrorMaze", got, ok, "4 8,4,2,1 0-2-9 0-3-7 1-2-8 2-3-5 2-3-6")
	got, ok = impl.MirrorMaze(mazeOf("1 9"))
	wantMaze(t, "MirrorMaze of one node", got, ok, "1 9")
	for _, m := range append(largeMazes(200), fullMaze()) {
		mirror, ok := impl.MirrorMaze(m)
		wantMaze(t, "MirrorMaze of "+textOf(m), mirror, ok, textOf(plainNumbered(m, func(x int) int { return m.Size - 1 - x }, same)))
		back, ok := impl.MirrorMaze(mirror)
		wantMaze(t, "MirrorMaze twice", back, ok, textOf(m))
	}
}

func TestNumberMaze(t *testing.T) {
	m := mazeOf("3 1,2,4 0-1-5 0-2-6 1-2-7")
	got, ok := impl.NumberMaze(m, []int{1, 2, 0})
	wantMaze(t, "NumberMaze", got, ok, "3 4,1,2 0-1-6 0-2-7 1-2-5")
	for _, m := range someMazes(60) {
		permutations(m.Size, func(to []int) {
			made, ok := impl.NumberMaze(m, to)
			wantMaze(t, "NumberMaze of "+textOf(m)+" "+commas(to), made, ok, textOf(plainNumbered(m, func(x int) int { return to[x] }, same)))
			from := make([]int, m.Size)
			for x, y := range to {
				from[y] = x
			}
			back, ok := impl.NumberMaze(made, from)
			wantMaze(t, "NumberMaze there and back", back, ok, textOf(m))
		})
	}
	r := newRandom()
	for _, m := range append(largeMazes(200), fullMaze()) {
		to := r.Perm(m.Size)
		made, ok := impl.NumberMaze(m, to)
		wantMaze(t, "NumberMaze of "+textOf(m)+" "+commas(to), made, ok, textOf(plainNumbered(m, func(x int) int { return to[x] }, same)))
	}
}

func TestNumberMazeOfOtherLists(t *testing.T) {
	m := mazeOf("3 1,2,4 0-1-5 0-2-6 1-2-7")
	lists(-1, 3, 4, func(to []int) {
		sorted := slices.Clone(to)
		slices.Sort(sorted)
		want := slices.Equal(sorted, []int{0, 1, 2})
		if got, ok := impl.NumberMaze(m, to); ok != want || !ok && textOf(got) != noMaze {
			t.Fatal("NumberMaze", to, textOf(got), ok)
		}
	})
	for _, to := range [][]int{{0, 1, math.MaxInt}, {math.MinInt, 0, 1}, {0, 1, 2 + 1<<32}, {0, 1, 2, 3, 4, 5}, make([]int, 100000)} {
		got, ok := impl.NumberMaze(m, to)
		wantMaze(t, "NumberMaze of "+shorten(commas(to)), got, ok, noMaze)
	}
}

func TestJoinMazes(t *testing.T) {
	for _, c := range [][3]string{
		{"3 0,1,0 0-1-0 0-2-1 1-2-3", "3 0,1,0 0-1-0 0-2-1 1-2-3", "5 0,1,0,1,0 0-1-0 0-2-1 1-2-3 2-3-0 2-4-1 3-4-3"},
		{"2 1,2 0-1-3", "2 4,8 0-1-5", "3 1,6,8 0-1-3 1-2-5"},
		{"2 1,6 0-1-3", "2 12,8 0-1-5", "3 1,14,8 0-1-3 1-2-5"},
		{"1 1", "1 2", "1 3"},
		{"1 1", "2 2,4 0-1-0", "2 3,4 0-1-0"},
		{"2 2,4 0-1-0", "1 1", "2 2,5 0-1-0"},
		{"2 0,0", "3 0,0,0", "4 0,0,0,0"},
	} {
		got, ok := impl.JoinMazes(mazeOf(c[0]), mazeOf(c[1]))
		wantMaze(t, "JoinMazes of "+c[0]+" and "+c[1], got, ok, c[2])
	}
	for _, odd := range oddMazes() {
		got, ok := impl.JoinMazes(odd, mazeOf("1 0"))
		wantMaze(t, "JoinMazes before", got, ok, noMaze)
		got, ok = impl.JoinMazes(mazeOf("1 0"), odd)
		wantMaze(t, "JoinMazes behind", got, ok, noMaze)
	}
}

func TestJoinMazesAtTheLimits(t *testing.T) {
	for _, a := range append(largeMazes(40), fullMaze()) {
		for _, b := range append(largeMazes(40), fullMaze(), mazeOf("1 0")) {
			both := impl.Maze{Size: a.Size + b.Size - 1, Keys: append(slices.Clone(a.Keys), b.Keys[1:]...)}
			both.Keys[a.Size-1] |= b.Keys[0]
			both.Doors = slices.Clone(a.Doors)
			for _, d := range b.Doors {
				both.Doors = append(both.Doors, [3]int{d[0] + a.Size - 1, d[1] + a.Size - 1, d[2]})
			}
			both.Doors = sortedDoors(both.Doors)
			want := noMaze
			if both.Size <= 12 && len(a.Doors)+len(b.Doors) <= 30 {
				want = textOf(both)
			}
			got, ok := impl.JoinMazes(a, b)
			wantMaze(t, "JoinMazes of "+textOf(a)+" and "+textOf(b), got, ok, want)
		}
	}
	doors := func(count int) impl.Maze {
		m := mazeOf("2 0,0")
		for need := range count {
			m.Doors = append(m.Doors, [3]int{0, 1, need})
		}
		return m
	}
	nodes := func(size int) impl.Maze { return impl.Maze{Size: size, Keys: make([]int, size)} }
	for _, c := range []struct {
		a, b impl.Maze
		want bool
	}{
		{doors(15), doors(15), true}, {doors(15), doors(16), false}, {doors(30), doors(0), true}, {doors(30), doors(1), false}, {doors(1), doors(30), false},
		{nodes(12), nodes(1), true}, {nodes(12), nodes(2), false}, {nodes(1), nodes(12), true}, {nodes(6), nodes(7), true}, {nodes(7), nodes(7), false},
	} {
		if got, ok := impl.JoinMazes(c.a, c.b); ok != c.want || !ok && textOf(got) != noMaze {
			t.Error("JoinMazes of", c.a.Size, "nodes,", len(c.a.Doors), "doors and", c.b.Size, "nodes,", len(c.b.Doors), "doors:", ok)
		}
	}
}

func TestKeyWalksStayThoseOfJoinedMazes(t *testing.T) {
	mazes := someMazes(25)
	for _, a := range mazes {
		for _, b := range mazes {
			both, ok := impl.JoinMazes(a, b)
			if !ok {
				t.Fatal("JoinMazes", textOf(a), textOf(b))
			}
			keyWalks(a, 4, func(walk []int) { wantKeyWalk(t, both, walk) })
		}
	}
}

func wantKeyWalk(t *testing.T, m impl.Maze, walk []int) {
	t.Helper()
	if is, ok := impl.IsKeyWalk(m, walk); !is || !ok {
		t.Fatal("IsKeyWalk", textOf(m), walk, is, ok)
	}
}

// eachSetMaze checks functions of a Maze and a set of colours.
func eachSetMaze(t *testing.T, name string, function func(impl.Maze, int) (impl.Maze, bool), plain func(impl.Maze, int) impl.Maze) {
	t.Helper()
	for _, m := range append(someMazes(60), append(largeMazes(60), fullMaze())...) {
		for set := range 64 {
			got, ok := function(m, set)
			wantMaze(t, fmt.Sprint(name, " of ", textOf(m), " ", set), got, ok, textOf(plain(m, set)))
		}
		for _, set := range noNumbers {
			got, ok := function(m, set)
			wantMaze(t, fmt.Sprint(name, " of ", set), got, ok, noMaze)
		}
	}
	for _, odd := range oddMazes() {
		got, ok := function(odd, 1)
		wantMaze(t, name+" of no Maze", got, ok, noMaze)
	}
}

// without returns a set without the colours of another one.
func without(set int, others int) int {
	left := 0
	for c := range 6 {
		if set/power2(c)%2 == 1 && others/power2(c)%2 == 0 {
			left += power2(c)
		}
	}
	return left
}

func TestFreeColours(t *testing.T) {
	for _, c := range []struct {
		text string
		set  int
		want string
	}{
		{"2 3,5 0-1-2 0-1-5 0-1-6", 4, "2 3,1 0-1-1 0-1-2"}, {"2 3,5 0-1-2 0-1-5 0-1-6", 63, "2 0,0 0-1-0"}, {"2 3,5 0-1-2 0-1-5 0-1-6", 0, "2 3,5 0-1-2 0-1-5 0-1-6"},
		{"3 0,0,0 0-1-4 0-1-5 0-1-6 0-2-4 0-2-5", 4, "3 0,0,0 0-1-0 0-1-1 0-1-2 0-2-0 0-2-1"}, {"3 0,0,1 0-2-1 1-2-1", 1, "3 0,0,0 0-2-0 1-2-0"},
		{"2 0,0 0-1-0 0-1-1 0-1-8 0-1-9", 1, "2 0,0 0-1-0 0-1-8"},
	} {
		got, ok := impl.FreeColours(mazeOf(c.text), c.set)
		wantMaze(t, fmt.Sprint("FreeColours of ", c.text, " ", c.set), got, ok, c.want)
	}
	eachSetMaze(t, "FreeColours", impl.FreeColours, func(m impl.Maze, set int) impl.Maze {
		return plainNumbered(m, same, func(other int) int { return without(other, set) })
	})
}

func TestBarColours(t *testing.T) {
	for _, c := range []struct {
		text string
		set  int
		want string
	}{
		{"2 3,5 0-1-2 0-1-5 0-1-6", 4, "2 3,1 0-1-2"}, {"2 3,5 0-1-2 0-1-5 0-1-6", 63, "2 0,0"}, {"2 3,5 0-1-2 0-1-5 0-1-6", 0, "2 3,5 0-1-2 0-1-5 0-1-6"},
		{"3 0,1,0 0-1-0 0-2-1 1-2-3", 2, "3 0,1,0 0-1-0 0-2-1"}, {"3 0,1,0 0-1-0 0-2-1 1-2-3", 1, "3 0,0,0 0-1-0"}, {"3 0,1,0 0-1-0 0-2-1 1-2-3", 48, "3 0,1,0 0-1-0 0-2-1 1-2-3"},
	} {
		got, ok := impl.BarColours(mazeOf(c.text), c.set)
		wantMaze(t, fmt.Sprint("BarColours of ", c.text, " ", c.set), got, ok, c.want)
	}
	eachSetMaze(t, "BarColours", impl.BarColours, func(m impl.Maze, set int) impl.Maze {
		made := plainNumbered(m, same, func(other int) int { return without(other, set) })
		made.Doors = nil
		for _, d := range m.Doors {
			if without(d[2], set) == d[2] {
				made.Doors = append(made.Doors, d)
			}
		}
		return made
	})
}

func TestKeyWalksOfFreedAndBarredMazes(t *testing.T) {
	for _, m := range someMazes(60) {
		for _, set := range []int{0, 1, 2, 3, 4, 7, 63} {
			free, ok1 := impl.FreeColours(m, set)
			barred, ok2 := impl.BarColours(m, set)
			if !ok1 || !ok2 {
				t.Fatal("FreeColours, BarColours", textOf(m), set)
			}
			keyWalks(m, 4, func(walk []int) { wantKeyWalk(t, free, walk) })
			keyWalks(barred, 4, func(walk []int) { wantKeyWalk(t, m, walk) })
		}
	}
}

func TestAddDoor(t *testing.T) {
	text := "3 0,1,2 0-1-0 0-2-1 1-2-3"
	for _, c := range []struct {
		a, b, need int
		want       string
	}{
		{0, 1, 1, "3 0,1,2 0-1-0 0-1-1 0-2-1 1-2-3"}, {1, 0, 1, "3 0,1,2 0-1-0 0-1-1 0-2-1 1-2-3"}, {2, 0, 0, "3 0,1,2 0-1-0 0-2-0 0-2-1 1-2-3"},
		{2, 1, 63, "3 0,1,2 0-1-0 0-2-1 1-2-3 1-2-63"}, {0, 1, 0, noMaze}, {1, 0, 0, noMaze}, {2, 0, 1, noMaze}, {1, 2, 3, noMaze},
		{0, 0, 5, noMaze}, {2, 2, 0, noMaze}, {0, 3, 0, noMaze}, {3, 0, 0, noMaze}, {-1, 0, 0, noMaze}, {0, -1, 0, noMaze}, {0, 1, -1, noMaze},
		{0, 1, 64, noMaze}, {math.MinInt, 1, 1, noMaze}, {1, math.MaxInt, 1, noMaze}, {0, 1, math.MaxInt, noMaze}, {0, 1, math.MinInt, noMaze},
	} {
		got, ok := impl.AddDoor(mazeOf(text), c.a, c.b, c.need)
		wantMaze(t, fmt.Sprint("AddDoor ", c.a, c.b, c.need), got, ok, c.want)
	}
	m := fullMaze()
	last := m.Doors[29]
	m.Doors = m.Doors[:29]
	got, ok := impl.AddDoor(m, last[1], last[0], last[2])
	wantMaze(t, "AddDoor of the last one of MaxDoors", got, ok, textOf(fullMaze()))
	got, ok = impl.AddDoor(fullMaze(), 0, 11, 0)
	wantMaze(t, "AddDoor of one more than MaxDoors", got, ok, noMaze)
	got, ok = impl.AddDoor(mazeOf("1 0"), 0, 0, 0)
	wantMaze(t, "AddDoor in one node", got, ok, noMaze)
	for _, odd := range oddMazes() {
		got, ok := impl.AddDoor(odd, 0, 1, 5)
		wantMaze(t, "AddDoor in no Maze", got, ok, noMaze)
	}
}

// A door that makes a list of doors valid, or leaves it valid, does not make a Maze of what is none.
func TestAddAndDropDoorOfNoMaze(t *testing.T) {
	unsorted := mazeOf("3 0,0,0 1-2-0 0-1-0")
	got, ok := impl.AddDoor(unsorted, 0, 2, 0)
	wantMaze(t, "AddDoor to doors out of order", got, ok, noMaze)
	for _, m := range []impl.Maze{unsorted, mazeOf("2 0,0 0-1-0 0-1-0"), mazeOf("2 0,0 0-0-0")} {
		for k := range m.Doors {
			got, ok := impl.DropDoor(m, k)
			wantMaze(t, "DropDoor of "+textOf(m), got, ok, noMaze)
		}
	}
	got, ok = impl.PutKeys(mazeOf("2 0,64"), 1, 0)
	wantMaze(t, "PutKeys in place of no set", got, ok, noMaze)
}

func TestDropDoor(t *testing.T) {
	text := "3 0,1,2 0-1-0 0-2-1 1-2-3"
	for k, want := range []string{"3 0,1,2 0-2-1 1-2-3", "3 0,1,2 0-1-0 1-2-3", "3 0,1,2 0-1-0 0-2-1"} {
		got, ok := impl.DropDoor(mazeOf(text), k)
		wantMaze(t, fmt.Sprint("DropDoor ", k), got, ok, want)
	}
	for _, k := range append(noNumbers, 3) {
		got, ok := impl.DropDoor(mazeOf(text), k)
		wantMaze(t, fmt.Sprint("DropDoor ", k), got, ok, noMaze)
	}
	got, ok := impl.DropDoor(mazeOf("2 0,0"), 0)
	wantMaze(t, "DropDoor of no door", got, ok, noMaze)
	for _, m := range append(largeMazes(100), fullMaze()) {
		for k, d := range m.Doors {
			less, ok := impl.DropDoor(m, k)
			if !ok || !impl.IsMaze(less) || slices.Contains(less.Doors, d) {
				t.Fatal("DropDoor", textOf(m), k, textOf(less), ok)
			}
			back, ok := impl.AddDoor(less, d[k%2], d[1-k%2], d[2])
			wantMaze(t, "AddDoor of a dropped door", back, ok, textOf(m))
		}
	}
}

func TestPutKeys(t *testing.T) {
	text := "3 9,1,2 0-1-0 0-2-1 1-2-3"
	for _, c := range []struct {
		x, set int
		want   string
	}{
		{0, 0, "3 0,1,2 0-1-0 0-2-1 1-2-3"}, {0, 63, "3 63,1,2 0-1-0 0-2-1 1-2-3"}, {2, 8, "3 9,1,8 0-1-0 0-2-1 1-2-3"}, {1, 1, text},
		{3, 0, noMaze}, {-1, 0, noMaze}, {0, 64, noMaze}, {0, -1, noMaze}, {math.MaxInt, 1, noMaze}, {math.MinInt, 1, noMaze}, {1, math.MaxInt, noMaze}, {1, math.MinInt, noMaze},
	} {
		got, ok := impl.PutKeys(mazeOf(text), c.x, c.set)
		wantMaze(t, fmt.Sprint("PutKeys ", c.x, c.set), got, ok, c.want)
	}
	for _, odd := range oddMazes() {
		got, ok := impl.PutKeys(odd, 0, 0)
		wantMaze(t, "PutKeys in no Maze", got, ok, noMaze)
	}
}

// painted returns a set in which each colour c is to[c].
func painted(set int, to []int) int {
	made := 0
	for c := range 6 {
		if set/power2(c)%2 == 1 {
			made += power2(to[c])
		}
	}
	return made
}

func TestRepaintMaze(t *testing.T) {
	got, ok := impl.RepaintMaze(mazeOf("2 3,32 0-1-1 0-1-2 0-1-12"), []int{5, 4, 3, 2, 1, 0})
	wantMaze(t, "RepaintMaze", got, ok, "2 48,1 0-1-12 0-1-16 0-1-32")
	got, ok = impl.RepaintMaze(mazeOf("2 1,2 0-1-4 0-1-8"), []int{1, 2, 3, 4, 5, 0})
	wantMaze(t, "RepaintMaze in a ring", got, ok, "2 2,4 0-1-8 0-1-16")
	m := fullMaze()
	permutations(6, func(to []int) {
		made, ok := impl.RepaintMaze(m, to)
		wantMaze(t, "RepaintMaze by "+commas(to), made, ok, textOf(plainNumbered(m, same, func(set int) int { return painted(set, to) })))
	})
}

func TestRepaintMazeOfOtherLists(t *testing.T) {
	m := mazeOf("2 3,32 0-1-1 0-1-2 0-1-12")
	for _, to := range [][]int{
		nil, {}, {0}, {0, 1}, {0, 1, 2, 3, 4}, {0, 1, 2, 3, 4, 4}, {0, 1, 2, 3, 4, 6}, {1, 2, 3, 4, 5, 6}, {-1, 1, 2, 3, 4, 5}, {0, 0, 0, 0, 0, 0},
		{0, 1, 2, 3, 4, 5, 6}, {0, 1, 2, 3, 4, 5, 5}, {0, 1, 2, 3, 4, math.MaxInt}, {math.MinInt, 1, 2, 3, 4, 5}, {0, 1, 2, 3, 4, 5 + 1<<32}, make([]int, 100000),
	} {
		got, ok := impl.RepaintMaze(m, to)
		wantMaze(t, "RepaintMaze by "+shorten(commas(to)), got, ok, noMaze)
	}
	for _, odd := range oddMazes() {
		got, ok := impl.RepaintMaze(odd, []int{0, 1, 2, 3, 4, 5})
		wantMaze(t, "RepaintMaze of no Maze", got, ok, noMaze)
	}
}

func TestRepaintedMazesHaveTheSameKeyWalks(t *testing.T) {
	r := newRandom()
	for _, m := range someMazes(60) {
		made, ok := impl.RepaintMaze(m, r.Perm(6))
		if !ok {
			t.Fatal("RepaintMaze", textOf(m))
		}
		lists(0, m.Size-1, 5, func(walk []int) {
			is, ok1 := impl.IsKeyWalk(m, walk)
			stays, ok2 := impl.IsKeyWalk(made, walk)
			if !ok1 || !ok2 || is != stays {
				t.Fatal("IsKeyWalk", textOf(m), textOf(made), walk, is, stays)
			}
		})
	}
}

func TestMadeMazesAreWonAlike(t *testing.T) {
	r := newRandom()
	won := 0
	for _, m := range append(someMazes(100), largeMazes(100)...) {
		repainted, ok1 := impl.RepaintMaze(m, r.Perm(6))
		to := []int{0}
		for _, x := range r.Perm(max(0, m.Size-2)) {
			to = append(to, x+1)
		}
		if m.Size > 1 {
			to = append(to, m.Size-1)
		}
		numbered, ok2 := impl.NumberMaze(m, to)
		if !ok1 || !ok2 {
			t.Fatal("RepaintMaze, NumberMaze", textOf(m), to)
		}
		wins := plainWins(m)
		if plainWins(repainted) != wins || plainWins(numbered) != wins {
			t.Fatal("won by some key walk:", textOf(m), wins, textOf(repainted), textOf(numbered))
		}
		if wins {
			won++
		}
	}
	if won < 20 || won > 180 {
		t.Error("Mazes that are won:", won)
	}
}

func TestMazeText(t *testing.T) {
	for _, text := range []string{"1 0", "1 63", "2 0,0", "2 63,10 0-1-0 0-1-63", "3 0,1,0 0-1-0 0-2-1 1-2-3", "12 0,1,2,3,4,5,6,7,8,9,10,11 0-11-0 10-11-63"} {
		got, ok := impl.MazeText(mazeOf(text))
		wantText(t, "MazeText", got, ok, text, true)
	}
	for _, m := range append(someMazes(100), append(largeMazes(300), fullMaze())...) {
		text, ok := impl.MazeText(m)
		wantText(t, "MazeText", text, ok, textOf(m), true)
		back, ok := impl.ParseMaze(text)
		wantMaze(t, "ParseMaze of "+text, back, ok, textOf(m))
	}
	for _, odd := range oddMazes() {
		text, ok := impl.MazeText(odd)
		wantText(t, "MazeText of no Maze", text, ok, "", false)
	}
}

func TestParseMazeOfOtherTexts(t *testing.T) {
	for _, text := range []string{
		"", " ", "  ", "1", "1 ", " 0", "1  0", " 1 0", "1 0 ", "1 0\n", "\n1 0", "1\t0", "1,0", "01 0", "1 00", "+1 0", "1 +0", "1 -0", "-0 0", "1 0,", "1 ,0",
		"2 0", "2 0,0,0", "2 0,,0", "2 0, 0", "2 0;0", "2 0,0 ", "2 0,0  0-1-0", "2 0,0 0-1", "2 0,0 0-1-", "2 0,0 -0-1-0", "2 0,0 0-1-0-", "2 0,0 0-1-0-0",
		"2 0,0 0--1-0", "2 0,0 0-1--1", "2 0,0 0,1,0", "2 0,0 0-1-00", "2 0,0 00-1-0", "2 0,0 0-01-0", "2 0,0 0-1-0,", "2 0,0,0-1-0", "2 0,0 1-0-0", "2 0,0 0-0-0",
		"2 0,0 0-2-0", "2 0,0 0-1-64", "2 0,64", "2 0,-1", "0 ", "0 0", "-1 0", "1.0 0", "0x1 0", "1 0x0", "a b", "1 a", "1 0 a", "1 0 a-b-c", "1 0 0-0-0",
		"2 0,0 0-1-1 0-1-0", "2 0,0 0-1-0 0-1-0", "3 0,0,0 0-2-0 0-1-0", "13 0,0,0,0,0,0,0,0,0,0,0,0,0", "1 1000000", "1000000 0", "9223372036854775808 0",
		"18446744073709551617 0", "1 18446744073709551616", "2 0,0 0-1-18446744073709551616", "1 0#1", "\xff", "1 0\x00", "1\u00a00", "\uff11 0",
		strings.Repeat(" ", impl.MaxString), strings.Repeat("1", 100000), "1 " + strings.Repeat("0,", 100000), "1 0" + strings.Repeat(" 0-1-0", 100000), "1 0" + strings.Repeat("-", 5000),
	} {
		got, ok := impl.ParseMaze(text)
		wantMaze(t, fmt.Sprintf("ParseMaze of %q", shorten(text)), got, ok, noMaze)
	}
	for _, odd := range oddMazes() {
		got, ok := impl.ParseMaze(textOf(odd))
		wantMaze(t, "ParseMaze of "+textOf(odd), got, ok, noMaze)
	}
}

var mazeForm = regexp.MustCompile(`^(0|[1-9][0-9]*) (0|[1-9][0-9]*)(,(0|[1-9][0-9]*))*( (0|[1-9][0-9]*)-(0|[1-9][0-9]*)-(0|[1-9][0-9]*))*$`)

// checkParse holds ParseMaze of any text against the form of such texts and what they say.
func checkParse(t *testing.T, text string) {
	t.Helper()
	want := noMaze
	if mazeForm.MatchString(text) && plainIsMaze(mazeOf(text)) {
		want = text
	}
	got, ok := impl.ParseMaze(text)
	wantMaze(t, fmt.Sprintf("ParseMaze of %q", text), got, ok, want)
}

func TestParseMazeOfShortTexts(t *testing.T) {
	allTexts("012 ,-", 6, func(text string) { checkParse(t, text) })
	allTexts("01-, ", 5, func(text string) { checkParse(t, "2 0,0 "+text) })
}

// Texts with one byte or one part changed, left out or put in are near to those that can be read.
func TestParseMazeOfChangedTexts(t *testing.T) {
	r := newRandom()
	mazes := append(someMazes(40), largeMazes(40)...)
	for range 20000 {
		text := textOf(mazes[r.Intn(len(mazes))])
		for range 1 + r.Intn(2) {
			text = changedText(r, text)
		}
		checkParse(t, text)
	}
}

func changedText(r *rand.Rand, text string) string {
	const alphabet = "0123456789 ,-+#ax\n"
	if text == "" {
		return " "
	}
	i := r.Intn(len(text))
	b := alphabet[r.Intn(len(alphabet)):][:1]
	switch r.Intn(5) {
	case 0:
		return text[:i] + b + text[i:]
	case 1:
		return text[:i] + text[i+1:]
	case 2:
		return text[:i] + b + text[i+1:]
	case 3:
		parts := strings.Split(text, " ")
		k, l := r.Intn(len(parts)), r.Intn(len(parts))
		parts[k], parts[l] = parts[l], parts[k]
		return strings.Join(parts, " ")
	}
	parts := strings.Split(text, " ")
	k := r.Intn(len(parts))
	return strings.Join(slices.Insert(parts, k, parts[k]), " ")
}

// mazePools has a pool of arguments for each type that the functions of chapter 2 take.
func mazePools() []any {
	mazes := append(oddMazes(), mazeOf("1 0"), mazeOf("2 1,0 0-1-1"), mazeOf("3 0,1,0 0-1-0 0-2-1 1-2-3"), mazeOf("4 9,9,9,9"), fullMaze())
	numbers := []int{0, 1, 2, 12, 63, 64, -1, math.MaxInt, math.MinInt}
	numberLists := [][]int{
		nil, {}, {0}, {1}, {0, 0}, {0, 1}, {1, 0}, {0, 1, 2}, {2, 0, 1}, {0, 1, 2, 3, 4, 5}, {5, 4, 3, 2, 1, 0}, {0, 1, 0, 2, 1}, {0, 1, 2, 3, 4, 5, 6},
		{-1}, {12}, {0, 13}, {0, -1, 2}, {math.MaxInt, math.MinInt, 0}, make([]int, 100), {11, 10, 9, 8, 7, 6, 5, 4, 3, 2, 1, 0},
	}
	texts := []string{"", " ", "1 0", "2 1,0 0-1-1", "3 0,1,0 0-1-0 0-2-1 1-2-3", "2 1,0 0-1-1 ", "\xff\x00", strings.Repeat("0 ", 2001)}
	return []any{mazes, numbers, numberLists, texts}
}

func TestMazesAreTotal(t *testing.T) {
	checkTotal(t, []named{
		{"IsMaze", impl.IsMaze}, {"SetOf", impl.SetOf}, {"ColoursOf", impl.ColoursOf}, {"DoorsAt", impl.DoorsAt}, {"IsOpenTo", impl.IsOpenTo},
		{"ReachWith", impl.ReachWith}, {"IsKeyWalk", impl.IsKeyWalk}, {"TakenOn", impl.TakenOn}, {"LeastNeeds", impl.LeastNeeds}, {"MirrorMaze", impl.MirrorMaze},
		{"NumberMaze", impl.NumberMaze}, {"JoinMazes", impl.JoinMazes}, {"FreeColours", impl.FreeColours}, {"BarColours", impl.BarColours}, {"AddDoor", impl.AddDoor},
		{"DropDoor", impl.DropDoor}, {"PutKeys", impl.PutKeys}, {"RepaintMaze", impl.RepaintMaze}, {"MazeText", impl.MazeText}, {"ParseMaze", impl.ParseMaze},
	}, mazePools())
}
