package tests

import (
	"fmt"
	"math/rand"
	"slices"
	"strconv"
	"strings"
	"testing"

	"loop.example/g01158/impl"
)

// mazeOf reads the text of a Maze, as long as all in it is numbers, valid or not.
func mazeOf(text string) impl.Maze {
	parts := strings.Split(text, " ")
	m := impl.Maze{Size: numberOf(parts[0])}
	for _, set := range strings.Split(parts[1], ",") {
		m.Keys = append(m.Keys, numberOf(set))
	}
	for _, part := range parts[2:] {
		door := strings.Split(part, "-")
		m.Doors = append(m.Doors, [3]int{numberOf(door[0]), numberOf(door[1]), numberOf(door[2])})
	}
	return m
}

func numberOf(text string) int {
	n, err := strconv.Atoi(text)
	if err != nil {
		panic(err)
	}
	return n
}

// noMaze is what textOf shows of the Maze that a function returns if it fails.
const noMaze = "0 "

func textOf(m impl.Maze) string {
	s := fmt.Sprint(m.Size, " ", commas(m.Keys))
	for _, door := range m.Doors {
		s += fmt.Sprintf(" %d-%d-%d", door[0], door[1], door[2])
	}
	return s
}

func commas(list []int) string {
	return strings.Trim(strings.ReplaceAll(fmt.Sprint(list), " ", ","), "[]")
}

// wantMaze checks a Maze that a function made; it must fail if want is noMaze.
func wantMaze(t *testing.T, name string, got impl.Maze, ok bool, want string) {
	t.Helper()
	if textOf(got) != want || ok != (want != noMaze) {
		t.Errorf("%s = %s, %v; want %s", name, textOf(got), ok, want)
	}
}

// wantList checks a list that a function made without failing.
func wantList(t *testing.T, name string, got []int, ok bool, want []int) {
	t.Helper()
	if !ok || !slices.Equal(got, want) {
		t.Errorf("%s = %v, %v; want %v, true", name, got, ok, want)
	}
}

// wantNoList checks that a function failed.
func wantNoList(t *testing.T, name string, got []int, ok bool) {
	t.Helper()
	if ok || len(got) != 0 {
		t.Errorf("%s = %v, %v; want a failure", name, got, ok)
	}
}

// sortedDoors returns doors in ascending order, each one once.
func sortedDoors(doors [][3]int) [][3]int {
	made := slices.Clone(doors)
	slices.SortFunc(made, func(a, b [3]int) int { return slices.Compare(a[:], b[:]) })
	return slices.Compact(made)
}

// randomMaze returns a Maze of size nodes and about doors doors, with sets of the first colours.
func randomMaze(r *rand.Rand, size int, doors int, colours int) impl.Maze {
	m := impl.Maze{Size: size}
	for range size {
		m.Keys = append(m.Keys, sparseSet(r, colours))
	}
	for range doors {
		a, b := r.Intn(size), r.Intn(size)
		if a != b {
			m.Doors = append(m.Doors, [3]int{min(a, b), max(a, b), sparseSet(r, colours)})
		}
	}
	m.Doors = sortedDoors(m.Doors)
	return m
}

// sparseSet returns a set that mostly has few of the first colours.
func sparseSet(r *rand.Rand, colours int) int {
	return r.Intn(1<<colours) & r.Intn(1<<colours)
}

// someMazes returns small Mazes of many kinds, each of which a plain search can master.
func someMazes(count int) []impl.Maze {
	r := newRandom()
	mazes := []impl.Maze{mazeOf("1 0"), mazeOf("1 63"), mazeOf("2 0,0"), mazeOf("2 0,0 0-1-0"), mazeOf("2 1,0 0-1-1"), mazeOf("2 0,1 0-1-1")}
	for range count {
		mazes = append(mazes, randomMaze(r, 1+r.Intn(5), r.Intn(9), 1+r.Intn(3)))
	}
	return mazes
}

// largeMazes returns Mazes up to all limits.
func largeMazes(count int) []impl.Maze {
	r := newRandom()
	mazes := []impl.Maze{}
	for range count {
		mazes = append(mazes, randomMaze(r, 1+r.Intn(impl.MaxNodes), r.Intn(impl.MaxDoors+1), 1+r.Intn(impl.MaxColours)))
	}
	return mazes
}

// fullMaze returns a Maze of MaxNodes nodes and MaxDoors doors.
func fullMaze() impl.Maze {
	m := impl.Maze{Size: impl.MaxNodes, Keys: make([]int, impl.MaxNodes)}
	for x := range impl.MaxNodes {
		m.Keys[x] = x % 3
	}
	for k := range impl.MaxDoors {
		m.Doors = append(m.Doors, [3]int{k % 11, k%11 + 1, k})
	}
	m.Doors = sortedDoors(m.Doors)
	return m
}

// permutations calls visit for every order of the numbers 0..size-1.
func permutations(size int, visit func(to []int)) {
	to := []int{}
	var extend func()
	extend = func() {
		if len(to) == size {
			visit(to)
			return
		}
		for n := range size {
			if !slices.Contains(to, n) {
				to = append(to, n)
				extend()
				to = to[:len(to)-1]
			}
		}
	}
	extend()
}

// lists calls visit for every list of at most size numbers in from..to.
func lists(from int, to int, size int, visit func(list []int)) {
	list := []int{}
	var extend func()
	extend = func() {
		visit(list)
		if len(list) == size {
			return
		}
		for n := from; n <= to; n++ {
			list = append(list, n)
			extend()
			list = list[:len(list)-1]
		}
	}
	extend()
}

// plainIsMaze follows the words of the document.
func plainIsMaze(m impl.Maze) bool {
	if m.Size < 1 || m.Size > 12 || len(m.Doors) > 30 || len(m.Keys) != m.Size {
		return false
	}
	for _, set := range m.Keys {
		if set < 0 || set > 63 {
			return false
		}
	}
	for k, d := range m.Doors {
		if d[0] < 0 || d[1] <= d[0] || d[1] > m.Size-1 || d[2] < 0 || d[2] > 63 {
			return false
		}
		if k == 0 {
			continue
		}
		// Each part is less than 64, so this number orders the doors.
		last := m.Doors[k-1]
		if last[0]*4096+last[1]*64+last[2] >= d[0]*4096+d[1]*64+d[2] {
			return false
		}
	}
	return true
}

// plainIsOpen reports whether one may go from x to y with a set of colours, colour by colour.
func plainIsOpen(m impl.Maze, x int, y int, set int) bool {
	for _, d := range m.Doors {
		if d[0] == x && d[1] == y || d[0] == y && d[1] == x {
			open := true
			for c := range 6 {
				if d[2]/power2(c)%2 == 1 && set/power2(c)%2 == 0 {
					open = false
				}
			}
			if open {
				return true
			}
		}
	}
	return false
}

func power2(c int) int {
	p := 1
	for range c {
		p *= 2
	}
	return p
}

// plainTaken returns the sets that are taken on a walk, and whether it is a key walk.
func plainTaken(m impl.Maze, walk []int) ([]int, bool) {
	if len(walk) == 0 {
		return nil, false
	}
	sets := []int{}
	has := map[int]bool{}
	for i, x := range walk {
		if x < 0 || x >= m.Size || i == 0 && x != 0 {
			return nil, false
		}
		if i > 0 && !plainIsOpen(m, walk[i-1], x, sets[i-1]) {
			return nil, false
		}
		set := 0
		for c := range 6 {
			if m.Keys[x]/power2(c)%2 == 1 {
				has[c] = true
			}
			if has[c] {
				set += power2(c)
			}
		}
		sets = append(sets, set)
	}
	return sets, true
}

// plainReach returns all nodes to which one can go from x with a set that stays as it is.
func plainReach(m impl.Maze, x int, set int) []int {
	seen := map[int]bool{}
	var visit func(x int)
	visit = func(x int) {
		if seen[x] {
			return
		}
		seen[x] = true
		for y := range m.Size {
			if plainIsOpen(m, x, y, set) {
				visit(y)
			}
		}
	}
	visit(x)
	nodes := []int{}
	for y := range m.Size {
		if seen[y] {
			nodes = append(nodes, y)
		}
	}
	return nodes
}

// keyWalks calls visit for every key walk of at most size nodes.
func keyWalks(m impl.Maze, size int, visit func(walk []int)) {
	var extend func(walk []int)
	extend = func(walk []int) {
		if _, ok := plainTaken(m, walk); !ok {
			return
		}
		visit(walk)
		if len(walk) < size {
			for y := range m.Size {
				extend(append(slices.Clone(walk), y))
			}
		}
	}
	extend([]int{0})
}

// plainWins reports whether some key walk wins, by a search over nodes and sets.
func plainWins(m impl.Maze) bool {
	type state struct{ x, set int }
	seen := map[state]bool{}
	var visit func(s state)
	visit = func(s state) {
		if seen[s] {
			return
		}
		seen[s] = true
		for y := range m.Size {
			if plainIsOpen(m, s.x, y, s.set) {
				visit(state{y, s.set | m.Keys[y]})
			}
		}
	}
	visit(state{0, m.Keys[0]})
	for s := range seen {
		if s.x == m.Size-1 {
			return true
		}
	}
	return false
}

// oddMazes returns Mazes that are not valid, each for one reason.
func oddMazes() []impl.Maze {
	odd := []impl.Maze{{}, {Size: 1}, {Keys: []int{}}, {Size: 0, Keys: []int{0}}, {Size: 1 << 62}, {Size: -1 << 63}}
	for _, text := range []string{
		"-1 0", "0 0", "2 0", "1 0,0", "13 0,0,0,0,0,0,0,0,0,0,0,0,0", "1 64", "1 -1", "2 0,64", "2 -1,0", "2 0,0 0-1-64", "2 0,0 0-1--1",
		"2 0,0 0-0-0", "2 0,0 1-1-0", "2 0,0 1-0-0", "2 0,0 0-2-0", "2 0,0 1-2-0", "2 0,0 -1-0-0", "2 0,0 -1-1-0", "2 0,0 2-3-0", "1 0 0-0-0",
		"1 0 0-1-0", "2 0,0 0-1-0 0-1-0", "2 0,0 0-1-1 0-1-0", "3 0,0,0 0-2-0 0-1-0", "3 0,0,0 0-2-0 0-1-1", "3 0,0,0 1-2-0 0-1-0",
		"3 0,0,0 1-2-0 0-2-1", "3 0,0,0 0-1-0 0-2-0 0-2-0", "2 0,0 0-1-1 0-1-2 0-1-1",
	} {
		odd = append(odd, mazeOfSigned(text))
	}
	many := impl.Maze{Size: 2, Keys: []int{0, 0}}
	for need := range impl.MaxDoors + 1 {
		many.Doors = append(many.Doors, [3]int{0, 1, need})
	}
	full := fullMaze()
	full.Doors = append(full.Doors, [3]int{10, 11, 63})
	return append(odd, many, full)
}

// mazeOfSigned is mazeOf for doors with numbers less than 0.
func mazeOfSigned(text string) impl.Maze {
	plain, doors := text, []string{}
	if parts := strings.Split(text, " "); len(parts) > 2 {
		plain, doors = parts[0]+" "+parts[1], parts[2:]
	}
	m := mazeOf(plain)
	for _, door := range doors {
		numbers := []int{}
		sign := 1
		// In "-1-0-0" and "0-1--1" the sign is behind a `-` that parts or at the beginning.
		for _, digits := range strings.Split(door, "-") {
			if digits == "" {
				sign = -1
				continue
			}
			numbers = append(numbers, sign*numberOf(digits))
			sign = 1
		}
		m.Doors = append(m.Doors, [3]int(numbers))
	}
	return m
}
