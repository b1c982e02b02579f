package tests

import (
	"fmt"
	"math"
	"math/rand"
	"slices"
	"strings"
	"testing"

	"loop.example/g01158/impl"
)

func TestLimitOfWorlds(t *testing.T) {
	if impl.MaxWorlds != 3 {
		t.Error("MaxWorlds", impl.MaxWorlds)
	}
}

// worldsOf reads a text like "2 1,0 0-1-1 @ 1,0 | 1 0 @ 0": for each world its Maze and the owners
// of its keys, all with any numbers.
func worldsOf(text string) impl.Worlds {
	w := impl.Worlds{}
	for _, part := range strings.Split(text, " | ") {
		maze, owners, _ := strings.Cut(part, " @ ")
		list := []int{}
		for _, owner := range strings.Split(owners, ",") {
			list = append(list, numberOf(owner))
		}
		w.Mazes = append(w.Mazes, mazeOf(maze))
		w.Owners = append(w.Owners, list)
	}
	return w
}

func worldsText(w impl.Worlds) string {
	if len(w.Mazes) != len(w.Owners) {
		return fmt.Sprint(w)
	}
	parts := []string{}
	for i, m := range w.Mazes {
		parts = append(parts, textOf(m)+" @ "+commas(w.Owners[i]))
	}
	return strings.Join(parts, " | ")
}

// noWorlds is what worldsText shows of the Worlds that a function returns if it fails.
const noWorlds = ""

func wantWorlds(t *testing.T, name string, got impl.Worlds, ok bool, want string) {
	t.Helper()
	if worldsText(got) != want || ok != (want != noWorlds) {
		t.Errorf("%s = %s, %v; want %s", name, worldsText(got), ok, want)
	}
}

// plainIsWorlds follows the words of the document.
func plainIsWorlds(w impl.Worlds) bool {
	count := len(w.Mazes)
	if count < 1 || count > 3 || len(w.Owners) != count {
		return false
	}
	for i, m := range w.Mazes {
		if !plainIsMaze(m) || len(w.Owners[i]) != m.Size {
			return false
		}
		for _, owner := range w.Owners[i] {
			if owner < 0 || owner > count-1 {
				return false
			}
		}
	}
	return true
}

// tour is what happens in all rounds: the sets of all worlds at the beginning of each one, and for
// each world the round in which each node is reached for the first time, or -1.
type tour struct {
	sets    [][]int
	reached [][]int
}

// plainTour follows the words of the document.
func plainTour(w impl.Worlds, release bool) tour {
	made := tour{}
	sets := make([]int, len(w.Mazes))
	for _, m := range w.Mazes {
		made.reached = append(made.reached, slices.Repeat([]int{-1}, m.Size))
	}
	for round := 0; ; round++ {
		made.sets = append(made.sets, slices.Clone(sets))
		isNew := false
		for i, m := range w.Mazes {
			reached := plainReach(m, 0, made.sets[round][i])
			taken := reached
			if release && made.reached[i][m.Size-1] == -1 && slices.Contains(reached, m.Size-1) {
				taken = nil
				for x := range m.Size {
					taken = append(taken, x)
				}
			}
			for _, x := range reached {
				if made.reached[i][x] == -1 {
					made.reached[i][x] = round
				}
			}
			for _, x := range taken {
				for _, c := range plainColours(m.Keys[x]) {
					if owner := w.Owners[i][x]; !has(sets[owner], c) {
						sets[owner] += power2(c)
						isNew = true
					}
				}
			}
		}
		if !isNew {
			return made
		}
	}
}

// won returns for each world the round in which it is won, or -1.
func (made tour) won() []int {
	rounds := []int{}
	for _, reached := range made.reached {
		rounds = append(rounds, reached[len(reached)-1])
	}
	return rounds
}

// plainBare returns Worlds in which no keys lie in the Maze of a world.
func plainBare(w impl.Worlds, i int) impl.Worlds {
	bare := impl.Worlds{Mazes: slices.Clone(w.Mazes), Owners: w.Owners}
	bare.Mazes[i] = impl.Maze{Size: w.Mazes[i].Size, Doors: w.Mazes[i].Doors, Keys: make([]int, w.Mazes[i].Size)}
	return bare
}

func plainLeansOn(w impl.Worlds, i int) []int {
	others := []int{}
	for j := range w.Mazes {
		if j != i && plainTour(w, false).won()[i] >= 0 && plainTour(plainBare(w, j), false).won()[i] < 0 {
			others = append(others, j)
		}
	}
	return others
}

func plainCanEver(w impl.Worlds, i int) bool {
	set := 0
	for j, m := range w.Mazes {
		for x, keys := range m.Keys {
			if w.Owners[j][x] == i {
				set |= keys
			}
		}
	}
	return slices.Contains(plainReach(w.Mazes[i], 0, set), w.Mazes[i].Size-1)
}

// toldWorlds is what the functions tell of Worlds. Sets of different rounds are parted by a space,
// and what is told of single worlds by a bar.
type toldWorlds struct {
	sets, won       string
	released, early string
	leans           string
	can             string
	reached         string
}

func plainWorlds(w impl.Worlds) toldWorlds {
	plain, released := plainTour(w, false), plainTour(w, true)
	leans, can := [][]int{}, []string{}
	for i := range w.Mazes {
		leans = append(leans, plainLeansOn(w, i))
		can = append(can, fmt.Sprint(plainCanEver(w, i)))
	}
	return toldWorlds{
		sets: listsText(plain.sets, " "), won: commas(plain.won()), released: listsText(released.sets, " "), early: commas(released.won()),
		leans: listsText(leans, "|"), can: strings.Join(can, "|"), reached: listsText(plain.reached, "|"),
	}
}

// askWorlds returns what the package tells of valid Worlds.
func askWorlds(t *testing.T, w impl.Worlds) toldWorlds {
	t.Helper()
	name := worldsText(w)
	if !impl.IsWorlds(w) {
		t.Error("IsWorlds of", name, "is false")
	}
	sets, setsOK := impl.RoundSets(w)
	won, wonOK := impl.WonRounds(w)
	released, releasedOK := impl.ReleaseSets(w)
	early, earlyOK := impl.ReleaseRounds(w)
	if !setsOK || !wonOK || !releasedOK || !earlyOK {
		t.Error("rounds of", name, setsOK, wonOK, releasedOK, earlyOK)
	}
	if all, ok := impl.AllWon(w); all != !slices.Contains(won, -1) || !ok {
		t.Error("AllWon of", name, all, ok)
	}
	leans, can, reached := [][]int{}, []string{}, [][]int{}
	for i := range w.Mazes {
		others, leansOK := impl.LeansOn(w, i)
		ever, canOK := impl.CanEver(w, i)
		rounds, reachedOK := impl.ReachedIn(w, i)
		if !leansOK || !canOK || !reachedOK {
			t.Error("world", i, "of", name, leansOK, canOK, reachedOK)
		}
		leans, can, reached = append(leans, others), append(can, fmt.Sprint(ever)), append(reached, rounds)
	}
	return toldWorlds{
		sets: listsText(sets, " "), won: commas(won), released: listsText(released, " "), early: commas(early),
		leans: listsText(leans, "|"), can: strings.Join(can, "|"), reached: listsText(reached, "|"),
	}
}

func checkWorlds(t *testing.T, w impl.Worlds, want toldWorlds) {
	t.Helper()
	if got := askWorlds(t, w); got != want {
		t.Errorf("worlds %s = %+v; want %+v", worldsText(w), got, want)
	}
}

func TestGivenWorlds(t *testing.T) {
	for _, c := range []struct {
		text string
		want toldWorlds
	}{
		// A single world, the goal of which is where one begins.
		{"1 0 @ 0", toldWorlds{"0", "0", "0", "0", "", "true", "0"}},
		{"1 63 @ 0", toldWorlds{"0 63", "0", "0 63", "0", "", "true", "0"}},
		// A single world that is won in the first round, later, or never.
		{"2 0,0 0-1-0 @ 0,0", toldWorlds{"0", "0", "0", "0", "", "true", "0,0"}},
		{"2 1,0 0-1-1 @ 0,0", toldWorlds{"0 1", "1", "0 1", "1", "", "true", "0,1"}},
		{"3 1,2,0 0-1-1 1-2-3 @ 0,0,0", toldWorlds{"0 1 3", "2", "0 1 3", "2", "", "true", "0,1,2"}},
		{"2 0,0 @ 0,0", toldWorlds{"0", "-1", "0", "-1", "", "false", "0,-1"}},
		{"2 63,63 @ 0,0", toldWorlds{"0 63", "-1", "0 63", "-1", "", "false", "0,-1"}},
		{"2 1,0 0-1-2 @ 0,0", toldWorlds{"0 1", "-1", "0 1", "-1", "", "false", "0,-1"}},
		// Its key lies behind the door that needs it.
		{"2 0,1 0-1-1 @ 0,0", toldWorlds{"0", "-1", "0", "-1", "", "true", "0,-1"}},
		// Keys of a round open doors from the next one on only, also those that lie on the way.
		{"3 0,1,0 0-1-0 1-2-1 @ 0,0,0", toldWorlds{"0 1", "1", "0 1", "1", "", "true", "0,0,1"}},
		{"4 0,1,0,0 0-1-0 1-2-1 2-3-1 @ 0,0,0,0", toldWorlds{"0 1", "1", "0 1", "1", "", "true", "0,0,1,1"}},
		// Keys that bring what is there already, in the same round and in a later one.
		{"2 1,1 0-1-0 @ 0,0", toldWorlds{"0 1", "0", "0 1", "0", "", "true", "0,0"}},
		{"2 1,1 0-1-1 @ 0,0", toldWorlds{"0 1", "1", "0 1", "1", "", "true", "0,1"}},
		{"3 1,3,2 0-1-1 1-2-0 @ 0,0,0", toldWorlds{"0 1 3", "1", "0 1 3", "1", "", "true", "0,1,1"}},
		// One goes back and forth through the same door, and not through one that needs more.
		{"4 0,1,0,0 0-1-0 0-2-1 2-3-3 @ 0,0,0,0", toldWorlds{"0 1", "-1", "0 1", "-1", "", "false", "0,0,1,-1"}},
		// Release of a world alone brings it colours, but not to the goal.
		{"3 0,1,0 0-1-1 0-2-0 @ 0,0,0", toldWorlds{"0", "0", "0 1", "0", "", "true", "0,-1,0"}},

		// The worlds of the stage's test, and their keys in other hands.
		{"2 2,0 0-1-1 @ 1,0 | 2 0,1 0-1-2 @ 0,0", toldWorlds{"0,0 0,2 1,2", "2,1", "0,0 0,2 1,2", "2,1", "1|0", "true|true", "0,2|0,1"}},
		{"2 2,0 0-1-1 @ 0,0 | 2 0,1 0-1-2 @ 0,0", toldWorlds{"0,0 2,0", "-1,-1", "0,0 2,0", "-1,-1", "|", "true|false", "0,-1|0,-1"}},
		// All keys belong to their own worlds, or to the other ones.
		{"2 1,0 0-1-1 @ 0,0 | 2 2,0 0-1-2 @ 1,1", toldWorlds{"0,0 1,2", "1,1", "0,0 1,2", "1,1", "|", "true|true", "0,1|0,1"}},
		{"2 1,0 0-1-2 @ 1,1 | 2 2,0 0-1-1 @ 0,0", toldWorlds{"0,0 2,1", "1,1", "0,0 2,1", "1,1", "1|0", "true|true", "0,1|0,1"}},
		// A key that a world needs lies in it, but belongs to the other one.
		{"2 1,0 0-1-1 @ 1,1 | 1 0 @ 0", toldWorlds{"0,0 0,1", "-1,0", "0,0 0,1", "-1,0", "|", "false|true", "0,-1|0"}},
		// Two worlds that wait for each other, and one of them with another key.
		{"2 0,1 0-1-1 @ 0,1 | 2 0,1 0-1-1 @ 0,0", toldWorlds{"0,0", "-1,-1", "0,0", "-1,-1", "|", "true|true", "0,-1|0,-1"}},
		{"2 1,1 0-1-1 @ 0,1 | 2 0,1 0-1-1 @ 0,0", toldWorlds{"0,0 1,0 1,1", "1,2", "0,0 1,0 1,1", "1,2", "|0", "true|true", "0,1|0,2"}},
		// A world that is never won beside one that is.
		{"2 0,0 @ 0,0 | 1 0 @ 0", toldWorlds{"0,0", "-1,0", "0,0", "-1,0", "|", "false|true", "0,-1|0"}},
		{"2 0,1 0-1-0 @ 0,1 | 2 2,0 0-1-4 @ 0,1", toldWorlds{"0,0 2,1", "0,-1", "0,0 2,1", "0,-1", "|", "true|false", "0,0|0,-1"}},
		// A world takes the keys of all its nodes at the end of a round, whatever the other one does then.
		{"3 0,1,0 0-1-2 0-2-1 @ 0,0,0 | 1 2 @ 0", toldWorlds{"0,0 2,0 3,0", "2,0", "0,0 2,0 3,0", "2,0", "1|", "true|true", "0,1,2|0"}},

		// Release of nodes that are never reached, which lets the other world win.
		{"3 0,1,0 0-2-0 @ 0,1,0 | 2 0,0 0-1-1 @ 1,1", toldWorlds{"0,0", "0,-1", "0,0 0,1", "0,1", "|", "true|true", "0,-1,0|0,-1"}},
		// The same key belongs to the world itself.
		{"3 0,1,0 0-2-0 @ 0,0,0 | 2 0,0 0-1-1 @ 1,1", toldWorlds{"0,0", "0,-1", "0,0 1,0", "0,-1", "|", "true|false", "0,-1,0|0,-1"}},
		// Release of a node that is reached later.
		{"3 2,1,0 0-1-2 0-2-0 @ 0,1,0 | 2 0,0 0-1-1 @ 1,1", toldWorlds{"0,0 2,0 2,1", "0,2", "0,0 2,1", "0,1", "|0", "true|true", "0,1,0|0,2"}},
		// Release of a world that is won in the last round, or of one that is not won.
		{"3 1,2,0 0-2-1 @ 0,1,0 | 2 0,0 0-1-2 @ 1,1", toldWorlds{"0,0 1,0", "1,-1", "0,0 1,0 1,2", "1,2", "|", "true|true", "0,-1,1|0,-1"}},
		{"3 0,2,0 0-2-1 @ 0,1,0 | 2 0,0 0-1-2 @ 1,1", toldWorlds{"0,0", "-1,-1", "0,0", "-1,-1", "|", "false|true", "0,-1,-1|0,-1"}},
		// Release of what was taken before.
		{"3 0,1,0 0-1-0 0-2-0 @ 0,1,0 | 2 0,0 0-1-1 @ 1,1", toldWorlds{"0,0 0,1", "0,1", "0,0 0,1", "0,1", "|0", "true|true", "0,0,0|0,1"}},

		// Three worlds: one that leans on both others, together or one behind the other, or on none of them.
		{"2 0,0 0-1-3 @ 0,0 | 1 1 @ 0 | 1 2 @ 0", toldWorlds{"0,0,0 3,0,0", "1,0,0", "0,0,0 3,0,0", "1,0,0", "1,2||", "true|true|true", "0,1|0|0"}},
		{"2 0,0 0-1-1 @ 0,0 | 2 0,1 0-1-1 @ 1,0 | 1 1 @ 1", toldWorlds{"0,0,0 0,1,0 1,1,0", "2,1,0", "0,0,0 0,1,0 1,1,0", "2,1,0", "1,2|2|", "true|true|true", "0,2|0,1|0"}},
		{"2 0,0 0-1-1 @ 0,0 | 1 1 @ 0 | 1 1 @ 0", toldWorlds{"0,0,0 1,0,0", "1,0,0", "0,0,0 1,0,0", "1,0,0", "||", "true|true|true", "0,1|0|0"}},
		{"1 1 @ 2 | 1 2 @ 2 | 2 0,0 0-1-1 0-1-2 @ 0,1", toldWorlds{"0,0,0 0,0,3", "0,0,1", "0,0,0 0,0,3", "0,0,1", "||", "true|true|true", "0|0|0,1"}},
		// A world that leans on the last one only, and keys that pass by the one in the middle.
		{"2 0,0 0-1-1 @ 0,0 | 2 2,0 @ 0,0 | 1 1 @ 0", toldWorlds{"0,0,0 3,0,0", "1,-1,0", "0,0,0 3,0,0", "1,-1,0", "2||", "true|false|true", "0,1|0,-1|0"}},
		// One release behind the other.
		{"3 0,1,0 0-2-0 @ 0,1,0 | 3 0,1,0 0-2-1 @ 1,2,1 | 2 0,0 0-1-1 @ 2,2",
			toldWorlds{"0,0,0", "0,-1,-1", "0,0,0 0,1,0 0,1,1", "0,1,2", "||", "true|true|true", "0,-1,0|0,-1,-1|0,-1"}},
		// Three worlds that wait for each other in a ring.
		{"2 0,1 0-1-1 @ 0,1 | 2 0,1 0-1-1 @ 1,2 | 2 0,1 0-1-1 @ 2,0",
			toldWorlds{"0,0,0", "-1,-1,-1", "0,0,0", "-1,-1,-1", "||", "true|true|true", "0,-1|0,-1|0,-1"}},
		{"1 0 @ 2 | 1 0 @ 0 | 1 0 @ 1", toldWorlds{"0,0,0", "0,0,0", "0,0,0", "0,0,0", "||", "true|true|true", "0|0|0"}},
	} {
		w := worldsOf(c.text)
		if worldsText(w) != c.text {
			t.Error("the text of", c.text, "is", worldsText(w))
		}
		if plain := plainWorlds(w); plain != c.want {
			t.Errorf("the plain worlds of %s are %+v; want %+v", c.text, plain, c.want)
		}
		checkWorlds(t, w, c.want)
	}
}

// relayText has the most rounds: each one but the last brings a single colour to a single world.
const relayText = "7 1,2,4,8,16,32,0 0-1-1 1-2-2 2-3-4 3-4-8 4-5-16 5-6-32 @ 1,1,1,1,1,1,0" +
	" | 7 0,1,2,4,8,16,32 0-1-1 1-2-2 2-3-4 3-4-8 4-5-16 5-6-32 @ 1,2,2,2,2,2,2" +
	" | 7 0,1,2,4,8,16,32 0-1-1 1-2-2 2-3-4 3-4-8 4-5-16 5-6-32 @ 2,0,0,0,0,0,0"

func TestWorldsUpToTheLimits(t *testing.T) {
	relay := worldsOf(relayText)
	sets, ok := impl.RoundSets(relay)
	if len(sets) != impl.MaxWorlds*impl.MaxColours+1 || !ok {
		t.Error("RoundSets of the relay", sets, ok)
	}
	for round, list := range sets {
		want := []int{power2(round/3) - 1, power2((round+2)/3) - 1, power2((round+1)/3) - 1}
		wantList(t, fmt.Sprint("the sets of the relay in round ", round), list, true, want)
	}
	won, ok := impl.WonRounds(relay)
	wantList(t, "WonRounds of the relay", won, ok, []int{18, 16, 17})
	reached, ok := impl.ReachedIn(relay, 1)
	wantList(t, "ReachedIn of the relay", reached, ok, []int{0, 1, 4, 7, 10, 13, 16})
	leans, ok := impl.LeansOn(relay, 0)
	wantList(t, "LeansOn of the relay", leans, ok, []int{1, 2})
	checkWorlds(t, relay, plainWorlds(relay))

	full := impl.Worlds{}
	for i := range impl.MaxWorlds {
		full.Mazes = append(full.Mazes, fullMaze())
		full.Owners = append(full.Owners, slices.Repeat([]int{i, 1, 0}, 4))
	}
	checkWorlds(t, full, plainWorlds(full))
	for _, m := range full.Mazes {
		m.Keys[0] = 63
	}
	checkWorlds(t, full, plainWorlds(full))
	won, ok = impl.WonRounds(full)
	wantList(t, "WonRounds of full Worlds", won, ok, []int{1, 1, 1})
}

// randomWorlds returns Worlds whose keys belong to their own worlds, to the others, or to any.
func randomWorlds(r *rand.Rand, count int, mostNodes int, colours int) impl.Worlds {
	w := impl.Worlds{}
	owned := r.Intn(5)
	for i := range count {
		m := scatteredMaze(r, 1+r.Intn(mostNodes), colours)
		owners := []int{}
		for range m.Size {
			switch owned {
			case 0:
				owners = append(owners, i)
			case 1:
				owners = append(owners, (i+1)%count)
			default:
				owners = append(owners, r.Intn(count))
			}
		}
		w.Mazes = append(w.Mazes, m)
		w.Owners = append(w.Owners, owners)
	}
	return w
}

// scatteredMaze returns a Maze each of whose nodes mostly has a single key and a door that needs a
// single one, behind one before it. The goal is any of these nodes, so that there are often others
// behind it.
func scatteredMaze(r *rand.Rand, size int, colours int) impl.Maze {
	if r.Intn(4) == 0 {
		return filledMaze(r, size, colours)
	}
	m := impl.Maze{Size: size}
	for x := range size {
		m.Keys = append(m.Keys, power2(r.Intn(colours)))
		if r.Intn(4) == 0 {
			m.Keys[x] = sparseSet(r, colours)
		}
		if x > 0 && r.Intn(8) > 0 {
			m.Doors = append(m.Doors, [3]int{max(0, x-1-r.Intn(3)), x, power2(r.Intn(colours)) * min(1, r.Intn(3))})
		}
	}
	goal := max(0, min(1, size-1), r.Intn(size))
	return plainNumbered(m, func(x int) int {
		switch x {
		case goal:
			return size - 1
		case size - 1:
			return goal
		}
		return x
	}, same)
}

func manyWorlds(count int) []impl.Worlds {
	r := newRandom()
	worlds := []impl.Worlds{worldsOf(relayText)}
	for range count {
		worlds = append(worlds, randomWorlds(r, 1+r.Intn(impl.MaxWorlds), 5, 1+r.Intn(4)))
	}
	for range count / 4 {
		worlds = append(worlds, randomWorlds(r, 1+r.Intn(impl.MaxWorlds), 8, 1+r.Intn(impl.MaxColours)))
	}
	return worlds
}

func TestManyWorlds(t *testing.T) {
	seen := map[string]int{}
	for _, w := range manyWorlds(12000) {
		want := plainWorlds(w)
		checkWorlds(t, w, want)
		plain, released := plainTour(w, false), plainTour(w, true)
		seen[fmt.Sprint("rounds ", min(5, len(plain.sets)))]++
		for i, round := range plain.won() {
			early := released.won()[i]
			switch {
			case round < 0 && early >= 0:
				seen["won by release"]++
			case early < round:
				seen["won earlier by release"]++
			case early >= 0 && len(w.Mazes) > 1:
				seen["won in the same round"]++
			case early < 0 && plainCanEver(w, i):
				seen["can, but is not won"]++
			case early < 0:
				seen["cannot be won"]++
			}
			seen[fmt.Sprint("leans on ", len(plainLeansOn(w, i)))]++
			if slices.Contains(plain.reached[i], -1) && round >= 0 {
				seen["won without a node"]++
			}
		}
	}
	for _, kind := range []string{
		"rounds 1", "rounds 2", "rounds 3", "rounds 4", "rounds 5", "won by release", "won earlier by release", "won in the same round",
		"can, but is not won", "cannot be won", "leans on 0", "leans on 1", "leans on 2", "won without a node",
	} {
		if seen[kind] < 40 {
			t.Error("too few worlds:", kind, seen[kind])
		}
	}
}

// Promise 10.
func TestNoWorldIsWonLaterWithRelease(t *testing.T) {
	earlier, only, cannot := 0, 0, 0
	for _, w := range manyWorlds(12000) {
		won, wonOK := impl.WonRounds(w)
		early, earlyOK := impl.ReleaseRounds(w)
		if !wonOK || !earlyOK || len(won) != len(w.Mazes) || len(early) != len(w.Mazes) {
			t.Fatal("rounds of", worldsText(w), won, wonOK, early, earlyOK)
		}
		for i := range w.Mazes {
			if won[i] >= 0 && (early[i] < 0 || early[i] > won[i]) {
				t.Fatal("ReleaseRounds of", worldsText(w), early, "; without release", won)
			}
			if can, ok := impl.CanEver(w, i); !can && early[i] >= 0 || !ok {
				t.Fatal("CanEver of", worldsText(w), i, can, ok, "; won in", early)
			} else if !can {
				cannot++
			}
			if won[i] >= 0 && early[i] < won[i] {
				earlier++
			}
			if won[i] < 0 && early[i] >= 0 {
				only++
			}
		}
	}
	if earlier < 60 || only < 120 || cannot < 300 {
		t.Error("too few worlds are won earlier, or with release only, or cannot be won:", earlier, only, cannot)
	}
}

// The guarantee of the chapter.
func TestWorldsGuarantee(t *testing.T) {
	grown := 0
	for _, w := range manyWorlds(2000) {
		sets, setsOK := impl.RoundSets(w)
		released, releasedOK := impl.ReleaseSets(w)
		if !setsOK || !releasedOK || len(sets) == 0 || len(released) == 0 {
			t.Fatal("rounds of", worldsText(w), sets, setsOK, released, releasedOK)
		}
		for _, rounds := range [][][]int{sets, released} {
			for round, list := range rounds[1:] {
				for i, set := range list {
					if !isIn(rounds[round][i], set) {
						t.Fatal("sets of", worldsText(w), rounds)
					}
				}
				if slices.Equal(rounds[round], list) {
					t.Fatal("a round of", worldsText(w), "brings nothing new", rounds)
				}
				grown++
			}
		}
		won, _ := impl.WonRounds(w)
		for i, m := range w.Mazes {
			reached, ok := impl.ReachedIn(w, i)
			if !ok || len(reached) != m.Size || reached[m.Size-1] != won[i] || reached[0] != 0 || won[i] >= len(sets) {
				t.Fatal("ReachedIn of", worldsText(w), i, reached, ok, won)
			}
		}
	}
	if grown < 2000 {
		t.Error("too few rounds bring something new:", grown)
	}
}

// A world alone is played as in chapter 3, whose rounds are counted from 1 on.
func TestAloneWorlds(t *testing.T) {
	won := 0
	for _, m := range append(append(someMazes(500), largeMazes(200)...), fullMaze(), chain(7)) {
		w, ok := impl.AloneWorlds(m)
		wantWorlds(t, "AloneWorlds of "+textOf(m), w, ok, textOf(m)+" @ "+commas(make([]int, m.Size)))
		rounds, wonOK := impl.WonRounds(w)
		all, allOK := impl.AllWon(w)
		if !wonOK || !allOK || len(rounds) != 1 || (rounds[0] >= 0) != plainWins(m) || all != plainWins(m) {
			t.Fatal("the world of", textOf(m), rounds, wonOK, all, allOK)
		}
		if all {
			won++
		}
		sets, setsOK := impl.RoundSets(w)
		plain, _ := impl.RoundsOf(m, 0)
		if !setsOK || listsText(sets, ",") != commas(plain) {
			t.Fatal("RoundSets of", textOf(m), sets, setsOK, plain)
		}
		reached, reachedOK := impl.ReachedIn(w, 0)
		entered, _ := impl.NodeRounds(m, 0)
		for x := range reached {
			reached[x]++
		}
		wantList(t, "ReachedIn of "+textOf(m), reached, reachedOK, entered)
		leans, leansOK := impl.LeansOn(w, 0)
		wantList(t, "LeansOn of "+textOf(m), leans, leansOK, nil)
	}
	if won < 200 {
		t.Error("too few worlds are won:", won)
	}
	for _, m := range oddMazes() {
		w, ok := impl.AloneWorlds(m)
		wantWorlds(t, "AloneWorlds of "+shorten(textOf(m)), w, ok, noWorlds)
	}
}

func TestOrdersOfGivenWorlds(t *testing.T) {
	for _, c := range []struct {
		text  string
		order []int
		want  string
	}{
		{"1 5 @ 0", []int{0}, "1 5 @ 0"},
		{"2 1,2 0-1-3 @ 0,0", []int{0}, "2 1,2 0-1-3 @ 0,0"},
		{"2 2,0 0-1-1 @ 1,0 | 2 0,1 0-1-2 @ 0,0", []int{0, 1}, "2 2,0 0-1-1 @ 1,0 | 2 0,1 0-1-2 @ 0,0"},
		{"2 2,0 0-1-1 @ 1,0 | 2 0,1 0-1-2 @ 0,0", []int{1, 0}, "2 0,1 0-1-2 @ 1,1 | 2 2,0 0-1-1 @ 0,1"},
		{"3 1,2,4 @ 0,1,2 | 1 8 @ 1 | 2 16,32 @ 2,0", []int{0, 1, 2}, "3 1,2,4 @ 0,1,2 | 1 8 @ 1 | 2 16,32 @ 2,0"},
		{"3 1,2,4 @ 0,1,2 | 1 8 @ 1 | 2 16,32 @ 2,0", []int{2, 1, 0}, "2 16,32 @ 0,2 | 1 8 @ 1 | 3 1,2,4 @ 2,1,0"},
		// Each list is another one than that of the places to which the worlds go.
		{"3 1,2,4 @ 0,1,2 | 1 8 @ 1 | 2 16,32 @ 2,0", []int{1, 2, 0}, "1 8 @ 0 | 2 16,32 @ 1,2 | 3 1,2,4 @ 2,0,1"},
		{"3 1,2,4 @ 0,1,2 | 1 8 @ 1 | 2 16,32 @ 2,0", []int{2, 0, 1}, "2 16,32 @ 0,1 | 3 1,2,4 @ 1,2,0 | 1 8 @ 2"},
	} {
		ordered, ok := impl.OrderWorlds(worldsOf(c.text), c.order)
		wantWorlds(t, fmt.Sprint("OrderWorlds of ", c.text, ", ", c.order), ordered, ok, c.want)
	}
}

// What is told of ordered Worlds is what is told of the Worlds, in their order.
func TestOrderWorldsChangesTheOrderOnly(t *testing.T) {
	moved := 0
	for _, w := range manyWorlds(400) {
		told := askWorlds(t, w)
		permutations(len(w.Mazes), func(order []int) {
			ordered, ok := impl.OrderWorlds(w, order)
			if !ok || !plainIsWorlds(ordered) {
				t.Fatal("OrderWorlds of", worldsText(w), order, worldsText(ordered), ok)
			}
			got := askWorlds(t, ordered)
			if got != reordered(told, order) {
				t.Fatalf("OrderWorlds of %s, %v tells %+v; the Worlds tell %+v", worldsText(w), order, got, told)
			}
			if got != told {
				moved++
			}
			back := make([]int, len(order))
			for place, i := range order {
				back[i] = place
			}
			again, ok := impl.OrderWorlds(ordered, back)
			wantWorlds(t, fmt.Sprint("OrderWorlds back from ", order), again, ok, worldsText(w))
		})
	}
	if moved < 500 {
		t.Error("too few Worlds tell something else:", moved)
	}
}

// reordered returns what is told of Worlds that are put into an order.
func reordered(told toldWorlds, order []int) toldWorlds {
	move := func(text string, sep string) string {
		parts, moved := strings.Split(text, sep), []string{}
		for _, i := range order {
			moved = append(moved, parts[i])
		}
		return strings.Join(moved, sep)
	}
	moveSets := func(text string) string {
		rounds := strings.Split(text, " ")
		for round := range rounds {
			rounds[round] = move(rounds[round], ",")
		}
		return strings.Join(rounds, " ")
	}
	leans := strings.Split(move(told.leans, "|"), "|")
	for i, list := range leans {
		places := []int{}
		for place, other := range order {
			if strings.Contains(list, fmt.Sprint(other)) {
				places = append(places, place)
			}
		}
		leans[i] = commas(places)
	}
	return toldWorlds{
		sets: moveSets(told.sets), won: move(told.won, ","), released: moveSets(told.released), early: move(told.early, ","),
		leans: strings.Join(leans, "|"), can: move(told.can, "|"), reached: move(told.reached, "|"),
	}
}

func TestOtherOrdersOfWorlds(t *testing.T) {
	for count, w := range []impl.Worlds{{}, worldsOf("1 0 @ 0"), worldsOf("1 0 @ 1 | 1 0 @ 0"), worldsOf("1 0 @ 2 | 1 0 @ 0 | 1 0 @ 1")} {
		lists(-1, 3, 4, func(order []int) {
			sorted := sorted(order)
			is := count > 0 && len(order) == count
			for i, n := range sorted {
				is = is && n == i
			}
			if ordered, ok := impl.OrderWorlds(w, order); ok != is || !is && worldsText(ordered) != noWorlds {
				t.Error("OrderWorlds of", worldsText(w), order, worldsText(ordered), ok)
			}
		})
		for _, n := range noNumbers {
			for _, order := range [][]int{{n}, {0, n}, {n, 0}, {0, 1, n}, {n, 1, 0}, {n, n}, {0, n, 1}} {
				ordered, ok := impl.OrderWorlds(w, order)
				wantWorlds(t, fmt.Sprint("OrderWorlds of ", worldsText(w), ", ", order), ordered, ok, noWorlds)
			}
		}
	}
}

func TestGiveKeysToGivenOwners(t *testing.T) {
	const text = "2 1,2 0-1-1 @ 0,1 | 3 4,8,0 1-2-2 @ 0,1,0"
	for _, c := range []struct {
		i, x, owner int
		want        string
	}{
		{0, 0, 0, text}, {0, 1, 1, text}, {1, 0, 0, text}, {1, 1, 1, text}, {1, 2, 0, text},
		{0, 0, 1, "2 1,2 0-1-1 @ 1,1 | 3 4,8,0 1-2-2 @ 0,1,0"},
		{0, 1, 0, "2 1,2 0-1-1 @ 0,0 | 3 4,8,0 1-2-2 @ 0,1,0"},
		{1, 0, 1, "2 1,2 0-1-1 @ 0,1 | 3 4,8,0 1-2-2 @ 1,1,0"},
		{1, 1, 0, "2 1,2 0-1-1 @ 0,1 | 3 4,8,0 1-2-2 @ 0,0,0"},
		{1, 2, 1, "2 1,2 0-1-1 @ 0,1 | 3 4,8,0 1-2-2 @ 0,1,1"},
		// Nodes that only the other world has, and worlds and owners that are not there.
		{0, 2, 0, noWorlds}, {0, 2, 1, noWorlds}, {1, 3, 0, noWorlds}, {0, -1, 0, noWorlds}, {1, -1, 1, noWorlds}, {0, 12, 0, noWorlds},
		{2, 0, 0, noWorlds}, {2, 0, 2, noWorlds}, {-1, 0, 0, noWorlds}, {3, 0, 1, noWorlds}, {0, 0, 2, noWorlds}, {1, 0, 2, noWorlds},
		{0, 0, -1, noWorlds}, {1, 1, -1, noWorlds}, {0, 1, 3, noWorlds},
	} {
		given, ok := impl.GiveKeys(worldsOf(text), c.i, c.x, c.owner)
		wantWorlds(t, fmt.Sprint("GiveKeys of ", c.i, ", ", c.x, ", ", c.owner), given, ok, c.want)
	}
	w := worldsOf(text)
	for _, n := range noNumbers {
		for _, c := range [][3]int{{n, 0, 0}, {0, n, 0}, {0, 0, n}, {1, n, 1}, {1, 2, n}, {n, n, n}} {
			given, ok := impl.GiveKeys(w, c[0], c[1], c[2])
			wantWorlds(t, fmt.Sprint("GiveKeys of ", c), given, ok, noWorlds)
		}
	}
}

func TestGiveKeysInManyWorlds(t *testing.T) {
	for _, w := range manyWorlds(200) {
		for i, m := range w.Mazes {
			for x := -1; x <= m.Size; x++ {
				for owner := -1; owner <= len(w.Mazes); owner++ {
					want := noWorlds
					if x >= 0 && x < m.Size && owner >= 0 && owner < len(w.Mazes) {
						had := w.Owners[i][x]
						w.Owners[i][x] = owner
						want = worldsText(w)
						w.Owners[i][x] = had
					}
					given, ok := impl.GiveKeys(w, i, x, owner)
					wantWorlds(t, fmt.Sprint("GiveKeys of ", worldsText(w), ", ", i, ", ", x, ", ", owner), given, ok, want)
				}
			}
		}
	}
}

// Keys that a world is given are had at the end of the round in which their node is reached.
func TestGivenKeysAreHad(t *testing.T) {
	w := worldsOf("2 1,0 0-1-2 @ 0,0 | 2 2,0 0-1-1 @ 1,1")
	checkWorlds(t, w, toldWorlds{"0,0 1,2", "-1,-1", "0,0 1,2", "-1,-1", "|", "false|false", "0,-1|0,-1"})
	w, one := impl.GiveKeys(w, 0, 0, 1)
	checkWorlds(t, w, toldWorlds{"0,0 0,3", "-1,1", "0,0 0,3", "-1,1", "|0", "false|true", "0,-1|0,1"})
	w, two := impl.GiveKeys(w, 1, 0, 0)
	checkWorlds(t, w, toldWorlds{"0,0 2,1", "1,1", "0,0 2,1", "1,1", "1|0", "true|true", "0,1|0,1"})
	if !one || !two {
		t.Error("GiveKeys fails", one, two)
	}
}

// oddWorlds returns Worlds that are not valid, each for one reason.
func oddWorlds() []impl.Worlds {
	one := mazeOf("1 0")
	odd := []impl.Worlds{
		{}, {Mazes: []impl.Maze{}, Owners: [][]int{}}, {Owners: [][]int{{0}}}, {Mazes: []impl.Maze{one}},
		{Mazes: []impl.Maze{one, one}, Owners: [][]int{{0}}}, {Mazes: []impl.Maze{one}, Owners: [][]int{{0}, {0}}}, {Mazes: []impl.Maze{one}, Owners: [][]int{{0}, {}}},
		{Mazes: []impl.Maze{one, one, one}, Owners: [][]int{{0}, {0}}}, {Mazes: []impl.Maze{one, one, one}, Owners: [][]int{{0}, {0}, {0}, {0}}},
		{Mazes: []impl.Maze{one}, Owners: [][]int{{}}}, {Mazes: []impl.Maze{one}, Owners: [][]int{nil}}, {Mazes: []impl.Maze{one, one}, Owners: [][]int{{0}, nil}},
		// Mazes with no nodes or no keys, whose owners are as many as their nodes.
		{Mazes: []impl.Maze{{}}, Owners: [][]int{{}}}, {Mazes: []impl.Maze{{Size: 2}}, Owners: [][]int{{0, 0}}},
	}
	for _, text := range []string{
		"1 0 @ 0 | 1 0 @ 0 | 1 0 @ 0 | 1 0 @ 0", "1 0 @ 0 | 1 0 @ 1 | 1 0 @ 2 | 1 0 @ 3",
		"1 0 @ 0,0", "2 0,0 @ 0", "2 0,0 @ 0,0,0", "3 0,0,0 @ 0,0", "1 0 @ 0 | 2 0,0 @ 0", "2 0,0 @ 0 | 1 0 @ 0,0", "1 0 @ 0 | 1 0 @ 0 | 1 0 @ 0,0",
		"1 0 @ 1", "1 0 @ -1", "2 0,0 @ 0,1", "2 0,0 @ -1,0", "1 0 @ 0 | 1 0 @ 2", "1 0 @ 2 | 1 0 @ 0", "1 0 @ 0 | 2 0,0 @ 1,-1",
		"1 0 @ 0 | 1 0 @ 0 | 1 0 @ 3", "1 0 @ 3 | 1 0 @ 0 | 1 0 @ 0", "1 0 @ 0 | 1 0 @ -1 | 1 0 @ 0", "1 0 @ 9223372036854775807", "1 0 @ -9223372036854775808",
	} {
		odd = append(odd, worldsOf(text))
	}
	for _, m := range oddMazes() {
		owners := make([]int, len(m.Keys))
		odd = append(odd, impl.Worlds{Mazes: []impl.Maze{m}, Owners: [][]int{owners}})
		odd = append(odd, impl.Worlds{Mazes: []impl.Maze{one, m}, Owners: [][]int{{1}, owners}})
		odd = append(odd, impl.Worlds{Mazes: []impl.Maze{one, m, one}, Owners: [][]int{{1}, owners, {0}}})
	}
	return odd
}

func TestIsWorldsOfAllOwners(t *testing.T) {
	valid := 0
	lists(-1, 3, 3, func(owners []int) {
		for count := range 5 {
			w := impl.Worlds{}
			for range count {
				w.Mazes = append(w.Mazes, mazeOf("2 0,1 0-1-0"))
				w.Owners = append(w.Owners, []int{0, 0})
			}
			for i := range count {
				w.Owners[i] = owners
				if got := impl.IsWorlds(w); got != plainIsWorlds(w) {
					t.Error("IsWorlds of", worldsText(w), got)
				}
				if plainIsWorlds(w) {
					valid++
				}
				w.Owners[i] = []int{0, 0}
			}
		}
	})
	if valid != 1+2*4+3*9 {
		t.Error("Worlds that are valid:", valid)
	}
}

func TestFunctionsOfNoWorlds(t *testing.T) {
	for _, w := range oddWorlds() {
		name := shorten(worldsText(w))
		if impl.IsWorlds(w) || plainIsWorlds(w) {
			t.Error("IsWorlds of", name, "is true")
		}
		if sets, ok := impl.RoundSets(w); len(sets) != 0 || ok {
			t.Error("RoundSets of", name, sets, ok)
		}
		if sets, ok := impl.ReleaseSets(w); len(sets) != 0 || ok {
			t.Error("ReleaseSets of", name, sets, ok)
		}
		won, ok := impl.WonRounds(w)
		wantNoList(t, "WonRounds of "+name, won, ok)
		won, ok = impl.ReleaseRounds(w)
		wantNoList(t, "ReleaseRounds of "+name, won, ok)
		if all, ok := impl.AllWon(w); all || ok {
			t.Error("AllWon of", name, all, ok)
		}
		for i := -1; i < 4; i++ {
			checkNoWorld(t, w, i)
			for x := range 2 {
				given, ok := impl.GiveKeys(w, i, x, 0)
				wantWorlds(t, "GiveKeys of "+name, given, ok, noWorlds)
			}
		}
		for _, order := range [][]int{nil, {0}, {0, 1}, {1, 0}, {0, 1, 2}, {2, 1, 0}, {0, 1, 2, 3}} {
			ordered, ok := impl.OrderWorlds(w, order)
			wantWorlds(t, "OrderWorlds of "+name, ordered, ok, noWorlds)
		}
	}
}

// checkNoWorld checks that the functions of a single world fail.
func checkNoWorld(t *testing.T, w impl.Worlds, i int) {
	t.Helper()
	name := fmt.Sprintf(" of %s, %d", shorten(worldsText(w)), i)
	leans, ok := impl.LeansOn(w, i)
	wantNoList(t, "LeansOn"+name, leans, ok)
	if can, ok := impl.CanEver(w, i); can || ok {
		t.Error("CanEver"+name, can, ok)
	}
	reached, ok := impl.ReachedIn(w, i)
	wantNoList(t, "ReachedIn"+name, reached, ok)
}

func TestFunctionsOfNoWorldOfThese(t *testing.T) {
	for count, w := range []impl.Worlds{{}, worldsOf("1 0 @ 0"), worldsOf("1 0 @ 1 | 1 0 @ 0"), worldsOf("1 0 @ 2 | 1 0 @ 0 | 1 0 @ 1")} {
		for _, i := range append(noNumbers, count, count+1, -2, 12) {
			checkNoWorld(t, w, i)
		}
	}
}

func TestWorldsAreTotal(t *testing.T) {
	odd := oddWorlds()
	worlds := append(odd, worldsOf("1 0 @ 0"), worldsOf("1 63 @ 0"), worldsOf("2 0,1 0-1-1 @ 0,1 | 2 0,1 0-1-1 @ 0,0"), worldsOf("2 2,0 0-1-1 @ 1,0 | 2 0,1 0-1-2 @ 0,0"),
		worldsOf("3 0,1,0 0-2-0 @ 0,1,0 | 3 0,1,0 0-2-1 @ 1,2,1 | 2 0,0 0-1-1 @ 2,2"), worldsOf(relayText))
	numbers := []int{-1, 0, 1, 2, 3, 12, math.MaxInt, math.MinInt}
	orders := [][]int{nil, {}, {0}, {1}, {0, 1}, {1, 0}, {0, 1, 2}, {2, 0, 1}, {0, 0}, {-1, 0}, {math.MaxInt, math.MinInt}, make([]int, 100)}
	mazes := append(oddMazes(), mazeOf("1 0"), mazeOf("1 63"), mazeOf("2 1,0 0-1-1"), fullMaze())
	checkTotal(t, []named{
		{"IsWorlds", impl.IsWorlds}, {"RoundSets", impl.RoundSets}, {"WonRounds", impl.WonRounds}, {"AllWon", impl.AllWon}, {"ReleaseSets", impl.ReleaseSets},
		{"ReleaseRounds", impl.ReleaseRounds}, {"LeansOn", impl.LeansOn}, {"CanEver", impl.CanEver}, {"ReachedIn", impl.ReachedIn},
		{"AloneWorlds", impl.AloneWorlds}, {"OrderWorlds", impl.OrderWorlds},
	}, []any{worlds, numbers, orders, mazes})
	checkTotal(t, []named{{"GiveKeys", impl.GiveKeys}}, []any{worlds[len(odd)-20:], numbers})
}
