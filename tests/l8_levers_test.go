package tests

import (
	"fmt"
	"math"
	"math/rand"
	"slices"
	"strings"
	"testing"

	"loop.example/g01158/impl"
)

func TestLimitsOfLevers(t *testing.T) {
	if impl.MaxLevers != 6 || impl.MaxActs != 60 {
		t.Error("limits", impl.MaxLevers, impl.MaxActs)
	}
}

// worksOf reads a text like "2 1,0 0/1/1/1": the size, Pulls, and the gates, all with any numbers.
func worksOf(text string) impl.Works {
	parts := strings.Split(text, " ")
	w := impl.Works{Size: numberOf(parts[0])}
	for _, pull := range strings.Split(parts[1], ",") {
		w.Pulls = append(w.Pulls, numberOf(pull))
	}
	for _, part := range parts[2:] {
		gate := [4]int{}
		for i, n := range strings.Split(part, "/") {
			gate[i] = numberOf(n)
		}
		w.Gates = append(w.Gates, gate)
	}
	return w
}

func worksText(w impl.Works) string {
	s := fmt.Sprint(w.Size, " ", commas(w.Pulls))
	for _, g := range w.Gates {
		s += fmt.Sprintf(" %d/%d/%d/%d", g[0], g[1], g[2], g[3])
	}
	return s
}

// noWorks is what worksText shows of the Works that a function returns if it fails.
const noWorks = "0 "

func sortedGates(gates [][4]int) [][4]int {
	made := slices.Clone(gates)
	slices.SortFunc(made, func(a, b [4]int) int { return slices.Compare(a[:], b[:]) })
	return slices.Compact(made)
}

// plainIsWorks follows the words of the document.
func plainIsWorks(w impl.Works) bool {
	if w.Size < 1 || w.Size > 12 || len(w.Gates) > 30 || len(w.Pulls) != w.Size {
		return false
	}
	for _, pull := range w.Pulls {
		if pull < 0 || pull > 63 {
			return false
		}
	}
	last := -1
	for _, g := range w.Gates {
		if g[0] < 0 || g[1] <= g[0] || g[1] > w.Size-1 || g[2] < 0 || g[2] > 63 || g[3] < 0 || g[3] > 1 {
			return false
		}
		// Each part is less than its place has room for, so this number orders the gates.
		order := g[0]*10000 + g[1]*200 + g[2]*2 + g[3]
		if order <= last {
			return false
		}
		last = order
	}
	return true
}

// plainGate reports whether a gate is open, lever by lever.
func plainGate(g [4]int, levers int) bool {
	down := 0
	for c := range 6 {
		if has(g[2], c) && has(levers, c) {
			down++
		}
	}
	return down%2 == g[3]
}

// stand is a node and a state of the levers.
type stand [2]int

// plainAct returns where one stands behind an act, and whether it is possible.
func plainAct(w impl.Works, s stand, act int) (stand, bool) {
	if act == -1 {
		for c := range 6 {
			if !has(w.Pulls[s[0]], c) {
				continue
			}
			if has(s[1], c) {
				s[1] -= power2(c)
			} else {
				s[1] += power2(c)
			}
		}
		return s, w.Pulls[s[0]] != 0
	}
	for _, g := range w.Gates {
		if (g[0] == s[0] && g[1] == act || g[1] == s[0] && g[0] == act) && plainGate(g, s[1]) {
			return stand{act, s[1]}, true
		}
	}
	return s, false
}

type move struct {
	act int
	to  stand
}

// worksTable has all that one can do, wherever one stands.
type worksTable struct {
	stands []stand
	moves  map[stand][]move
}

func plainWorks(w impl.Works) worksTable {
	table := worksTable{moves: map[stand][]move{}}
	for x := range w.Size {
		for levers := range 64 {
			s := stand{x, levers}
			table.stands = append(table.stands, s)
			for act := -1; act < w.Size; act++ {
				if to, ok := plainAct(w, s, act); ok {
					table.moves[s] = append(table.moves[s], move{act, to})
				}
			}
		}
	}
	return table
}

// leastCosts returns what it costs at least to come from one stand to others: it makes the numbers
// less as long as some move does so.
func (table worksTable) leastCosts(from stand, cost func(act int) int) map[stand]int {
	least := map[stand]int{from: 0}
	for changed := true; changed; {
		changed = false
		for _, s := range table.stands {
			now, is := least[s]
			if !is {
				continue
			}
			for _, m := range table.moves[s] {
				if before, seen := least[m.to]; !seen || now+cost(m.act) < before {
					least[m.to] = now + cost(m.act)
					changed = true
				}
			}
		}
	}
	return least
}

func actCost(act int) int { return 1 }

func pullCost(act int) int {
	if act == -1 {
		return 1
	}
	return 0
}

// atGoal returns the least number at the goal, or none.
func atGoal(w impl.Works, least map[stand]int) string {
	best := none
	for s, n := range least {
		if s[0] == w.Size-1 && (best == none || n < numberOf(best)) {
			best = fmt.Sprint(n)
		}
	}
	return best
}

// firstPlan returns the first one of the shortest lists that win. It goes on from node 0, and keeps
// the least list to each stand.
func (table worksTable) firstPlan(w impl.Works) string {
	layer := map[stand][]int{{0, 0}: {}}
	seen := map[stand]bool{}
	for len(layer) > 0 {
		var best []int
		found := false
		for s, list := range layer {
			seen[s] = true
			if s[0] == w.Size-1 && (!found || slices.Compare(list, best) < 0) {
				best, found = list, true
			}
		}
		if found && len(best) > 60 {
			return none
		}
		if found {
			return commas(best)
		}
		behind := map[stand][]int{}
		for s, list := range layer {
			for _, m := range table.moves[s] {
				longer := append(slices.Clone(list), m.act)
				if before, is := behind[m.to]; !seen[m.to] && (!is || slices.Compare(longer, before) < 0) {
					behind[m.to] = longer
				}
			}
		}
		layer = behind
	}
	return none
}

// plainSpan counts what the pulls of all lists of different nodes make.
func plainSpan(w impl.Works) int {
	made := map[int]bool{}
	for nodes := range power2(w.Size) {
		s := stand{}
		for x := range w.Size {
			if has(nodes, x) {
				pulled, _ := plainAct(w, stand{x, s[1]}, -1)
				s[1] = pulled[1]
			}
		}
		made[s[1]] = true
	}
	return len(made)
}

// toldLevers is what the functions of Works alone tell. States of different nodes are parted by `|`.
type toldLevers struct {
	fewest, plan string
	visits       int
	table        string
	pulls        string
	span         int
}

func plainLevers(w impl.Works) toldLevers {
	table := plainWorks(w)
	least := table.leastCosts(stand{}, actCost)
	want := toldLevers{
		fewest: atGoal(w, least), plan: table.firstPlan(w), visits: len(least), span: plainSpan(w),
		pulls: atGoal(w, table.leastCosts(stand{}, pullCost)),
	}
	lists := []string{}
	for x := range w.Size {
		states := []int{}
		for levers := range 64 {
			if _, is := least[stand{x, levers}]; is {
				states = append(states, levers)
			}
		}
		lists = append(lists, commas(states))
	}
	want.table = strings.Join(lists, "|")
	return want
}

func intOrNone(n int, ok bool) string {
	if !ok && n == 0 {
		return none
	}
	return fmt.Sprint(n)
}

// askLevers returns what the package tells.
func askLevers(t *testing.T, w impl.Works) toldLevers {
	t.Helper()
	visits, visitsOK := impl.CountVisits(w)
	table, tableOK := impl.ReachTable(w)
	span, spanOK := impl.SpanOfPulls(w)
	if !visitsOK || !tableOK || !spanOK || len(table) != w.Size {
		t.Fatal("levers of", worksText(w), visitsOK, tableOK, spanOK, table)
	}
	lists := []string{}
	for _, states := range table {
		lists = append(lists, commas(states))
	}
	return toldLevers{
		intOrNone(impl.FewestActs(w)), listOrNone(impl.FirstPlan(w)), visits, strings.Join(lists, "|"), intOrNone(impl.FewestPulls(w)), span,
	}
}

// checkLevers holds the functions of Works alone against what they must return.
func checkLevers(t *testing.T, w impl.Works, want toldLevers) {
	t.Helper()
	if !impl.IsWorks(w) {
		t.Error("IsWorks of", worksText(w))
	}
	if got := askLevers(t, w); got != want {
		t.Errorf("levers of %s = %+v; want %+v", worksText(w), got, want)
	}
}

func checkPlainLevers(t *testing.T, w impl.Works) toldLevers {
	t.Helper()
	want := plainLevers(w)
	checkLevers(t, w, want)
	return want
}

// checkVisit holds the functions of a visit against what they must return.
func checkVisit(t *testing.T, w impl.Works, s stand) {
	t.Helper()
	want := []int{}
	for act := -4; act <= impl.MaxNodes+1; act++ {
		to, is := plainAct(w, s, act)
		if act < -1 || act >= w.Size || !is {
			checkNoAct(t, w, s, act)
			continue
		}
		want = append(want, act)
		x, levers, ok := impl.DoAct(w, s[0], s[1], act)
		if (stand{x, levers}) != to || !ok {
			t.Errorf("DoAct of %s, %v, %d = %d, %d, %v; want %v", worksText(w), s, act, x, levers, ok, to)
		}
	}
	got, ok := impl.ActsAt(w, s[0], s[1])
	wantList(t, fmt.Sprint("ActsAt of ", worksText(w), ", ", s), got, ok, want)
	for k, g := range w.Gates {
		if open, ok := impl.GateOpen(w, k, s[1]); open != plainGate(g, s[1]) || !ok {
			t.Errorf("GateOpen of %s, %d, %d = %v, %v", worksText(w), k, s[1], open, ok)
		}
	}
}

func checkNoAct(t *testing.T, w impl.Works, s stand, act int) {
	t.Helper()
	if x, levers, ok := impl.DoAct(w, s[0], s[1], act); x != 0 || levers != 0 || ok {
		t.Errorf("DoAct of %s, %v, %d = %d, %d, %v; want a failure", worksText(w), s, act, x, levers, ok)
	}
}

// checkPlan holds the functions of a list of any numbers against what they must return, and reports
// whether it is a plan.
func checkPlan(t *testing.T, w impl.Works, list []int) bool {
	t.Helper()
	s, want := stand{}, len(list) <= 60
	for _, act := range list {
		if want {
			s, want = plainAct(w, s, act)
		}
	}
	if !want {
		s = stand{}
	}
	if is, ok := impl.IsPlan(w, list); is != want || !ok {
		t.Errorf("IsPlan of %s, %v = %v, %v; want %v, true", worksText(w), list, is, ok, want)
	}
	if x, levers, ok := impl.RunPlan(w, list); (stand{x, levers}) != s || ok != want {
		t.Errorf("RunPlan of %s, %v = %d, %d, %v; want %v, %v", worksText(w), list, x, levers, ok, s, want)
	}
	return want
}

func TestIsWorks(t *testing.T) {
	for _, text := range []string{
		"1 0", "1 63", "2 0,0", "2 63,63", "2 0,0 0/1/0/0", "2 0,0 0/1/63/1", "2 1,0 0/1/1/1", "2 0,0 0/1/0/0 0/1/0/1", "2 0,0 0/1/5/1 0/1/6/0",
		"3 0,0,0 0/1/63/1 0/2/0/0 1/2/0/0", "12 0,0,0,0,0,0,0,0,0,0,0,0", "12 0,1,2,3,4,5,6,7,60,61,62,63 0/11/0/0 10/11/63/1",
	} {
		if w := worksOf(text); !impl.IsWorks(w) || !plainIsWorks(w) {
			t.Error("IsWorks of", text)
		}
	}
	for _, w := range oddWorks() {
		if impl.IsWorks(w) || plainIsWorks(w) {
			t.Error("IsWorks of", worksText(w))
		}
	}
	for _, n := range append(noNumbers, 65, 127) {
		for place := range 4 {
			w := worksOf("4 1,2,3,4 0/1/1/0 1/2/1/0 2/3/1/0")
			w.Gates[1][place] = n
			if impl.IsWorks(w) {
				t.Error("IsWorks of a gate with", n, "at", place)
			}
		}
		for x := range 4 {
			w := worksOf("4 1,2,3,4 0/1/1/0 1/2/1/0 2/3/1/0")
			w.Pulls[x] = n
			if impl.IsWorks(w) {
				t.Error("IsWorks of a pull", n, "at", x)
			}
		}
		w := worksOf("4 1,2,3,4 0/1/1/0 1/2/1/0 2/3/1/0")
		w.Size = n
		if impl.IsWorks(w) {
			t.Error("IsWorks of size", n)
		}
	}
	if w := fullWorks(); !impl.IsWorks(w) || len(w.Gates) != 30 || w.Size != 12 {
		t.Error("IsWorks of", worksText(w))
	}
}

// TestIsWorksOfChangedWorks changes single numbers, so that some Works are valid still and others not.
func TestIsWorksOfChangedWorks(t *testing.T) {
	r := newRandom()
	valid, others := 0, 0
	for _, w := range manyWorks(1500) {
		switch r.Intn(6) {
		case 0:
			w.Size += r.Intn(3) - 1
		case 1:
			w.Pulls[r.Intn(w.Size)] = r.Intn(70) - 3
		case 2:
			w.Pulls = append(w.Pulls, 0)[:w.Size-1+r.Intn(3)]
		default:
			if len(w.Gates) > 0 {
				k, place := r.Intn(len(w.Gates)), r.Intn(4)
				w.Gates[k][place] += r.Intn(3) - 1
			}
		}
		want := plainIsWorks(w)
		if impl.IsWorks(w) != want {
			t.Error("IsWorks of", worksText(w), !want)
		}
		if want {
			valid++
		} else {
			others++
		}
	}
	if valid < 200 || others < 200 {
		t.Error("too few Works are valid or not:", valid, others)
	}
}

// oddWorks returns Works that are not valid, each for one reason.
func oddWorks() []impl.Works {
	odd := []impl.Works{
		{}, {Size: 1}, {Pulls: []int{}}, {Size: 0, Pulls: []int{0}}, {Size: 1 << 62}, {Size: -1 << 63}, {Size: 2}, {Size: -1}, {Size: 12},
		{Size: 2, Gates: [][4]int{{0, 1, 0, 0}}},
	}
	for _, text := range []string{
		"-1 0", "0 0", "2 0", "1 0,0", "3 0,0", "13 0,0,0,0,0,0,0,0,0,0,0,0,0", "11 0,0,0,0,0,0,0,0,0,0,0,0", "1 64", "1 -1", "2 0,64", "2 -1,0",
		"2 0,0 0/1/64/0", "2 0,0 0/1/-1/0", "2 0,0 0/1/0/2", "2 0,0 0/1/0/-1", "2 0,0 0/0/0/0", "2 0,0 1/1/0/0", "2 0,0 1/0/0/0",
		"2 0,0 0/2/0/0", "2 0,0 1/2/0/0", "2 0,0 -1/0/0/0", "2 0,0 -1/1/0/0", "2 0,0 2/3/0/0", "2 0,0 -2/-1/0/0", "1 0 0/0/0/0", "1 0 0/1/0/0",
		// Gates that are given twice, and gates that are not ascending by any of the four.
		"2 0,0 0/1/0/0 0/1/0/0", "2 0,0 0/1/0/1 0/1/0/1", "2 0,0 0/1/0/1 0/1/0/0", "2 0,0 0/1/1/0 0/1/0/0", "2 0,0 0/1/1/0 0/1/0/1",
		"3 0,0,0 0/2/0/0 0/1/0/0", "3 0,0,0 0/2/0/0 0/1/1/1", "3 0,0,0 1/2/0/0 0/1/0/0", "3 0,0,0 1/2/0/0 0/2/1/1", "3 0,0,0 0/1/0/0 0/2/0/0 0/2/0/0",
		"2 0,0 0/1/1/0 0/1/2/0 0/1/1/0", "3 0,0,0 0/1/0/0 2/1/0/0",
	} {
		odd = append(odd, worksOf(text))
	}
	many := impl.Works{Size: 2, Pulls: []int{0, 0}}
	for k := range impl.MaxDoors + 1 {
		many.Gates = append(many.Gates, [4]int{0, 1, k, 0})
	}
	full := fullWorks()
	full.Gates = append(full.Gates, [4]int{10, 11, 63, 1})
	return append(odd, many, full)
}

// fullWorks returns Works of MaxNodes nodes and MaxDoors gates, with all levers.
func fullWorks() impl.Works {
	w := impl.Works{Size: impl.MaxNodes}
	for x := range impl.MaxNodes {
		w.Pulls = append(w.Pulls, power2(x%6))
	}
	for k := range impl.MaxDoors {
		w.Gates = append(w.Gates, [4]int{k % 11, k%11 + 1, 1 + k*7%62, k % 2})
	}
	w.Gates = sortedGates(w.Gates)
	return w
}

// randomWorks returns Works with about some gates, with sets of the first levers.
func randomWorks(r *rand.Rand, size int, gates int, levers int) impl.Works {
	w := impl.Works{Size: size}
	for range size {
		w.Pulls = append(w.Pulls, sparseSet(r, levers))
	}
	for range gates {
		a, b := r.Intn(size), r.Intn(size)
		if a != b {
			w.Gates = append(w.Gates, [4]int{min(a, b), max(a, b), r.Intn(power2(levers)), r.Intn(2)})
		}
	}
	w.Gates = sortedGates(w.Gates)
	return w
}

// hardWorks returns Works with few gates, most of which are shut at first, along a row of the nodes
// in some order. Their shortest lists are longer.
func hardWorks(r *rand.Rand) impl.Works {
	size := 3 + r.Intn(5)
	w := impl.Works{Size: size}
	order := []int{0}
	for _, n := range r.Perm(size - 2) {
		order = append(order, n+1)
	}
	order = append(order, size-1)
	for i := range size {
		w.Pulls = append(w.Pulls, 1+r.Intn(15))
		if i > 0 {
			a, b := order[i-1], order[i]
			w.Gates = append(w.Gates, [4]int{min(a, b), max(a, b), 1 + r.Intn(15), r.Intn(2)})
		}
	}
	for range r.Intn(3) {
		if a, b := r.Intn(size), r.Intn(size-1); a != b {
			w.Gates = append(w.Gates, [4]int{min(a, b), max(a, b), r.Intn(16), 1})
		}
	}
	w.Gates = sortedGates(w.Gates)
	return w
}

// changedFarWorks returns farWorks with a gate or a pull that is another one. Many of them have long
// lists, too.
func changedFarWorks(r *rand.Rand) impl.Works {
	w := worksOf(farWorks)
	if r.Intn(2) == 0 {
		w.Pulls[r.Intn(w.Size)] = r.Intn(64)
		return w
	}
	k := r.Intn(len(w.Gates))
	w.Gates[k][2] ^= power2(r.Intn(6))
	w.Gates = sortedGates(w.Gates)
	return w
}

// manyWorks returns Works of many kinds.
func manyWorks(count int) []impl.Works {
	r := newRandom()
	works := []impl.Works{}
	for len(works) < count {
		works = append(works, randomWorks(r, 1+r.Intn(5), r.Intn(9), 1+r.Intn(4)), hardWorks(r))
		if len(works)%20 == 0 {
			works = append(works, randomWorks(r, 1+r.Intn(impl.MaxNodes), r.Intn(impl.MaxDoors+1), impl.MaxLevers), changedFarWorks(r))
		}
	}
	return works
}

// The shortest list of farWorks has just farActs acts, that of farthestWorks far more than MaxActs.
const (
	farActs       = 59
	farWorks      = "9 15,1,41,20,0,55,13,41,53 0/2/51/1 0/6/7/1 1/3/5/0 1/7/43/0 2/7/16/1 3/4/22/0 3/6/51/0 4/8/52/0 5/7/33/1"
	farthestWorks = "12 9,30,0,51,15,46,47,12,9,25,15,37 0/3/5/1 0/6/23/1 1/8/52/0 2/3/26/0 2/4/51/0 2/7/5/0 4/10/15/0 4/10/60/0 5/10/39/0 5/11/37/0 6/7/30/1 7/9/29/1 8/9/35/1"
)

// longer returns Works with some more nodes behind the goal, the last of which is the new goal.
func longer(w impl.Works, nodes int) impl.Works {
	for range nodes {
		w.Gates = append(slices.Clone(w.Gates), [4]int{w.Size - 1, w.Size, 0, 0})
		w.Pulls = append(slices.Clone(w.Pulls), 0)
		w.Size++
	}
	w.Gates = sortedGates(w.Gates)
	return w
}

func TestLeversOfGivenWorks(t *testing.T) {
	for _, c := range []struct {
		text string
		want toldLevers
	}{
		// One node, whose goal is where one begins.
		{"1 0", toldLevers{"0", "", 1, "0", "0", 1}},
		{"1 1", toldLevers{"0", "", 2, "0,1", "0", 2}},
		{"1 63", toldLevers{"0", "", 2, "0,63", "0", 2}},
		// No gates, and nothing to pull.
		{"2 0,0", toldLevers{none, none, 1, "0|", none, 1}},
		{"2 1,2", toldLevers{none, none, 2, "0,1|", none, 4}},
		{"3 0,0,0 0/1/0/0 1/2/0/0", toldLevers{"2", "1,2", 3, "0|0|0", "0", 1}},
		{"2 0,0 0/1/1/0", toldLevers{"1", "1", 2, "0|0", "0", 1}},
		{"2 0,0 0/1/1/1", toldLevers{none, none, 1, "0|", none, 1}},
		// Gates that are always open, and that are never open.
		{"2 63,0 0/1/0/0", toldLevers{"1", "1", 4, "0,63|0,63", "0", 2}},
		{"2 63,0 0/1/0/1", toldLevers{none, none, 2, "0,63|", none, 2}},
		{"2 1,0 0/1/0/0 0/1/0/1", toldLevers{"1", "1", 4, "0,1|0,1", "0", 2}},
		// Two gates between the same nodes of which just one is open, and both of which are.
		{"2 1,0 0/1/1/0 0/1/1/1", toldLevers{"1", "1", 4, "0,1|0,1", "0", 2}},
		{"2 0,0 0/1/1/1 0/1/2/0", toldLevers{"1", "1", 2, "0|0", "0", 1}},
		{"2 0,0 0/1/1/0 0/1/2/0", toldLevers{"1", "1", 2, "0|0", "0", 1}},
		{"2 0,0 0/1/1/1 0/1/2/1", toldLevers{none, none, 1, "0|", none, 1}},
		// One pull before one goes, and gates that no pull opens.
		{"2 1,0 0/1/1/1", toldLevers{"2", "-1,1", 3, "0,1|1", "1", 2}},
		{"2 1,1 0/1/1/1", toldLevers{"2", "-1,1", 4, "0,1|0,1", "1", 2}},
		{"2 2,0 0/1/1/1", toldLevers{none, none, 2, "0,2|", none, 2}},
		{"2 0,1 0/1/1/1", toldLevers{none, none, 1, "0|", none, 2}},
		{"2 32,0 0/1/32/1", toldLevers{"2", "-1,1", 3, "0,32|32", "1", 2}},
		// Gates and pulls of several levers.
		{"2 1,0 0/1/3/1", toldLevers{"2", "-1,1", 3, "0,1|1", "1", 2}},
		{"2 3,0 0/1/3/1", toldLevers{none, none, 2, "0,3|", none, 2}},
		{"2 3,0 0/1/3/0", toldLevers{"1", "1", 4, "0,3|0,3", "0", 2}},
		{"2 7,0 0/1/63/1", toldLevers{"2", "-1,1", 3, "0,7|7", "1", 2}},
		{"2 63,0 0/1/63/1", toldLevers{none, none, 2, "0,63|", none, 2}},
		{"2 63,0 0/1/31/1", toldLevers{"2", "-1,1", 3, "0,63|63", "1", 2}},
		// The same pull at two nodes, and pulls that together make another.
		{"3 1,1,0 0/1/0/0 1/2/1/1", toldLevers{"3", "-1,1,2", 5, "0,1|0,1|1", "1", 2}},
		{"4 1,2,3,0 0/1/0/0 1/2/0/0 2/3/3/1", toldLevers{"4", "-1,1,2,3", 14, "0,1,2,3|0,1,2,3|0,1,2,3|1,2", "1", 4}},
		{"3 6,3,5 0/1/0/0 1/2/7/1", toldLevers{none, none, 8, "0,3,5,6|0,3,5,6|", none, 4}},
		{"7 1,2,4,8,16,32,63 0/1/0/0 0/2/0/0 0/3/0/0 0/4/0/0 0/5/0/0 5/6/63/1", toldLevers{"3", "-1,5,6", 416, "", "1", 64}},
		// A pull that has to be undone, and the same node twice.
		{"3 1,2,0 0/1/1/1 0/2/3/0 0/2/3/1", toldLevers{"1", "2", 10, "0,1,2,3|1,3|0,1,2,3", "0", 4}},
		{"3 1,2,0 0/1/1/1 0/2/2/1", toldLevers{"5", "-1,1,-1,0,2", 8, "0,1,2,3|1,3|2,3", "2", 4}},
		{"4 1,2,0,0 0/1/1/1 0/2/2/1 2/3/1/0", toldLevers{"7", "-1,1,-1,0,-1,2,3", 0, "", "3", 4}},
		// Fewer pulls by more acts.
		{"6 1,0,0,0,0,0 0/1/0/0 0/5/1/1 1/2/0/0 2/3/0/0 3/4/0/0 4/5/0/0", toldLevers{"2", "-1,5", 12, "0,1|0,1|0,1|0,1|0,1|0,1", "0", 2}},
		// To pull is before all nodes; the lesser node is first.
		{"4 1,0,0,0 0/1/1/0 0/2/1/1 1/3/1/1 2/3/1/1", toldLevers{"3", "-1,2,3", 6, "0,1|0,1|1|1", "1", 2}},
		{"4 0,0,0,0 0/1/0/0 0/2/0/0 1/3/0/0 2/3/0/0", toldLevers{"2", "1,3", 4, "0|0|0|0", "0", 1}},
		{"3 0,1,0 0/1/0/0 0/2/1/1 1/2/1/1", toldLevers{"3", "1,-1,2", 5, "0,1|0,1|1", "1", 2}},
	} {
		w := worksOf(c.text)
		want := checkPlainLevers(t, w)
		// Long tables and large numbers that were not counted by hand.
		if c.want.table == "" {
			c.want.table = want.table
		}
		if c.want.visits == 0 {
			c.want.visits = want.visits
		}
		checkLevers(t, w, c.want)
	}
}

func TestLeversOfManyWorks(t *testing.T) {
	won, lost, long, walked, fewer := 0, 0, 0, 0, 0
	for _, w := range manyWorks(1600) {
		want := checkPlainLevers(t, w)
		if want.fewest == none {
			lost++
			continue
		}
		won++
		if len(want.fewest) > 1 {
			long++
		}
		if want.pulls == "0" && w.Size > 1 {
			walked++
		}
		if strings.Count(want.plan, "-1") > numberOf(want.pulls) {
			fewer++
		}
		plan, _ := impl.FirstPlan(w)
		checkPlan(t, w, plan)
	}
	if won < 400 || lost < 400 || long < 50 || walked < 100 || fewer < 20 {
		t.Error("too few Works are won, or lost, or won by long lists, or without a pull, or by fewer pulls than FirstPlan has:", won, lost, long, walked, fewer)
	}
}

func TestLongWorks(t *testing.T) {
	for more := range 4 {
		w := longer(worksOf(farWorks), more)
		want := checkPlainLevers(t, w)
		if want.fewest != fmt.Sprint(farActs+more) || (want.plan == none) != (farActs+more > impl.MaxActs) {
			t.Error("longer by", more, want)
		}
	}
	w := longer(worksOf(farWorks), 1)
	plan, ok := impl.FirstPlan(w)
	if !ok || len(plan) != impl.MaxActs || !checkPlan(t, w, plan) || checkPlan(t, w, append(plan, plan[58])) {
		t.Error("FirstPlan of MaxActs acts", plan, ok)
	}
	if x, _, ok := impl.RunPlan(w, plan); x != w.Size-1 || !ok {
		t.Error("RunPlan of MaxActs acts", x, ok)
	}
	want := checkPlainLevers(t, worksOf(farthestWorks))
	if want.fewest != "101" || want.plan != none || want.pulls == none {
		t.Error("farthest", want)
	}
}

func TestLeversUpToTheLimits(t *testing.T) {
	checkPlainLevers(t, fullWorks())
	// A star of twelve nodes: six of them pull one lever each, so all states can be made everywhere.
	star := impl.Works{Size: impl.MaxNodes, Pulls: []int{0, 1, 2, 4, 8, 16, 32, 63, 0, 21, 42, 0}}
	for x := 1; x < impl.MaxNodes; x++ {
		star.Gates = append(star.Gates, [4]int{0, x, 0, 0})
	}
	states := []int{}
	for levers := range 64 {
		states = append(states, levers)
	}
	table := strings.Repeat(commas(states)+"|", 11) + commas(states)
	checkLevers(t, star, toldLevers{"1", "11", 768, table, "0", 64})
	checkPlainLevers(t, star)
	// All gates between the same two nodes, shut at first; one lever of six opens the last of them.
	wide := impl.Works{Size: 2, Pulls: []int{32, 0}}
	for set := range impl.MaxDoors - 1 {
		wide.Gates = append(wide.Gates, [4]int{0, 1, set, 1})
	}
	wide.Gates = append(wide.Gates, [4]int{0, 1, 32, 1})
	checkLevers(t, wide, toldLevers{"2", "-1,1", 3, "0,32|32", "1", 2})
	shut := impl.Works{Size: 2, Gates: wide.Gates[:29], Pulls: wide.Pulls}
	checkLevers(t, shut, toldLevers{none, none, 2, "0,32|", none, 2})
	// A row of twelve nodes that can be gone through without a pull.
	row := impl.Works{Size: impl.MaxNodes, Pulls: slices.Repeat([]int{63}, impl.MaxNodes)}
	for x := range impl.MaxNodes - 1 {
		row.Gates = append(row.Gates, [4]int{x, x + 1, 63, 0})
	}
	checkLevers(t, row, toldLevers{"11", "1,2,3,4,5,6,7,8,9,10,11", 24, strings.Repeat("0,63|", 11) + "0,63", "0", 2})
}

func TestGateOpen(t *testing.T) {
	for set := range 64 {
		w := impl.Works{Size: 3, Gates: [][4]int{{0, 1, set, 0}, {0, 1, set, 1}, {1, 2, set, 1}}, Pulls: []int{0, 0, 0}}
		for levers := range 64 {
			for k, g := range w.Gates {
				if open, ok := impl.GateOpen(w, k, levers); open != plainGate(g, levers) || !ok {
					t.Error("GateOpen of", g, levers, open, ok)
				}
			}
			first, _ := impl.GateOpen(w, 0, levers)
			second, _ := impl.GateOpen(w, 1, levers)
			if first == second || set == 0 && !first {
				t.Error("GateOpen of two gates with the set", set, levers, first, second)
			}
		}
	}
	w := worksOf("3 1,2,0 0/1/1/1 1/2/3/0")
	for _, c := range []struct {
		k, levers int
		want      bool
	}{{0, 0, false}, {0, 1, true}, {0, 2, false}, {0, 3, true}, {1, 0, true}, {1, 1, false}, {1, 2, false}, {1, 3, true}, {1, 63, true}, {0, 62, false}} {
		if open, ok := impl.GateOpen(w, c.k, c.levers); open != c.want || !ok {
			t.Error("GateOpen", c, open, ok)
		}
	}
	for _, n := range append(noNumbers, 65) {
		for _, place := range [][2]int{{n, 0}, {0, n}, {n, n}} {
			if open, ok := impl.GateOpen(w, place[0], place[1]); open || ok {
				t.Error("GateOpen", place, open, ok)
			}
		}
	}
	for _, k := range []int{2, 3, 30} {
		if open, ok := impl.GateOpen(w, k, 0); open || ok {
			t.Error("GateOpen of place", k, open, ok)
		}
	}
	if open, ok := impl.GateOpen(worksOf("1 0"), 0, 0); open || ok {
		t.Error("GateOpen without gates", open, ok)
	}
}

func TestActs(t *testing.T) {
	w := worksOf("5 1,0,6,0,63 0/1/0/0 0/1/1/1 0/2/1/1 0/3/2/1 1/2/0/0 2/3/0/1 2/4/6/0")
	for _, c := range []struct {
		x, levers int
		want      []int
	}{
		{0, 0, []int{-1, 1}}, {0, 1, []int{-1, 1, 2}}, {0, 2, []int{-1, 1, 3}}, {0, 3, []int{-1, 1, 2, 3}}, {0, 60, []int{-1, 1}}, {0, 63, []int{-1, 1, 2, 3}},
		{1, 0, []int{0, 2}}, {1, 1, []int{0, 2}}, {2, 0, []int{-1, 1, 4}}, {2, 1, []int{-1, 0, 1, 4}}, {2, 2, []int{-1, 1}}, {2, 6, []int{-1, 1, 4}},
		{3, 0, []int{}}, {3, 2, []int{0}}, {4, 0, []int{-1, 2}}, {4, 4, []int{-1}},
	} {
		got, ok := impl.ActsAt(w, c.x, c.levers)
		wantList(t, fmt.Sprint("ActsAt ", c.x, " ", c.levers), got, ok, c.want)
		checkVisit(t, w, stand{c.x, c.levers})
	}
	for _, c := range [][5]int{
		{0, 0, -1, 0, 1}, {0, 1, -1, 0, 0}, {0, 62, -1, 0, 63}, {2, 0, -1, 2, 6}, {2, 3, -1, 2, 5}, {4, 21, -1, 4, 42}, {0, 0, 1, 1, 0}, {1, 0, 0, 0, 0},
		{0, 1, 2, 2, 1}, {2, 1, 0, 0, 1}, {2, 6, 4, 4, 6}, {3, 3, 0, 0, 3},
	} {
		if x, levers, ok := impl.DoAct(w, c[0], c[1], c[2]); x != c[3] || levers != c[4] || !ok {
			t.Error("DoAct", c, x, levers, ok)
		}
	}
	for _, c := range [][3]int{
		// Nothing to pull, no gate, a gate that is shut or never open, and the node itself.
		{1, 0, -1}, {3, 0, -1}, {0, 0, 4}, {1, 0, 3}, {0, 0, 2}, {2, 0, 0}, {0, 0, 3}, {2, 0, 3}, {3, 63, 2}, {0, 0, 0}, {2, 2, 2}, {4, 2, 2},
		{0, 0, -2}, {0, 0, -64}, {0, 0, 5}, {0, 0, 12}, {0, 0, math.MaxInt}, {0, 0, math.MinInt}, {0, 0, 1 << 32}, {0, 0, 1<<32 + 1}, {0, 0, 1<<32 - 1},
	} {
		checkNoAct(t, w, stand{c[0], c[1]}, c[2])
	}
	for _, n := range append(noNumbers, 65) {
		for _, s := range []stand{{n, 0}, {0, n}, {n, n}} {
			got, ok := impl.ActsAt(w, s[0], s[1])
			wantNoList(t, fmt.Sprint("ActsAt ", s), got, ok)
			for act := -2; act < 6; act++ {
				checkNoAct(t, w, s, act)
			}
		}
	}
	for _, n := range noNumbers[1:] {
		checkNoAct(t, w, stand{2, 1}, n)
	}
	for _, s := range []stand{{5, 0}, {12, 0}, {5, 64}} {
		got, ok := impl.ActsAt(w, s[0], s[1])
		wantNoList(t, fmt.Sprint("ActsAt ", s), got, ok)
		checkNoAct(t, w, s, -1)
	}
}

func TestActsOfManyWorks(t *testing.T) {
	r := newRandom()
	for i, w := range append(manyWorks(300), fullWorks(), worksOf(farWorks), worksOf(farthestWorks)) {
		for x := range w.Size {
			for range 6 {
				checkVisit(t, w, stand{x, r.Intn(64)})
			}
			checkVisit(t, w, stand{x, 0})
			checkVisit(t, w, stand{x, 63})
		}
		if i%50 == 0 {
			for levers := range 64 {
				checkVisit(t, w, stand{r.Intn(w.Size), levers})
			}
		}
	}
}

func TestPlans(t *testing.T) {
	w := worksOf("3 1,2,0 0/1/1/1 0/2/2/1")
	for _, c := range []struct {
		list      []int
		x, levers int
	}{
		{nil, 0, 0}, {[]int{}, 0, 0}, {[]int{-1}, 0, 1}, {[]int{-1, -1}, 0, 0}, {[]int{-1, 1}, 1, 1}, {[]int{-1, 1, 0, -1}, 0, 0},
		{[]int{-1, 1, -1, 0, 2}, 2, 3}, {[]int{-1, 1, -1, 0, -1, 2, 0, 2}, 2, 2}, {[]int{-1, 1, -1, -1, -1, 0, 2, 0, -1}, 0, 2},
		{slices.Repeat([]int{-1}, 60), 0, 0}, {slices.Repeat([]int{-1}, 59), 0, 1}, {append(slices.Repeat([]int{-1}, 59), 1), 1, 1},
	} {
		if x, levers, ok := impl.RunPlan(w, c.list); x != c.x || levers != c.levers || !ok {
			t.Errorf("RunPlan %v = %d, %d, %v; want %d, %d", c.list, x, levers, ok, c.x, c.levers)
		}
		if !checkPlan(t, w, c.list) {
			t.Error("no plan", c.list)
		}
	}
	for _, list := range [][]int{
		// A gate that is shut when its turn comes, no gate, the node itself, and nothing to pull.
		{1}, {2}, {-1, 2}, {-1, -1, 1}, {-1, 1, -1, 0, -1, 1}, {-1, 1, 2}, {0}, {-1, 0}, {-1, 1, 1}, {-1, 1, -1, 0, 2, -1}, {-1, 1, -1, 0, 2, 1},
		{-2}, {-1, -2}, {-2, -1}, {3}, {-1, 3}, {-1, 1, math.MinInt}, {-1, math.MaxInt}, {-1, 1 + 1<<32}, {1<<32 - 1},
		// Lists that are too long.
		slices.Repeat([]int{-1}, 61), slices.Repeat([]int{-1}, 62), append(slices.Repeat([]int{-1}, 59), 1, 0), append(slices.Repeat([]int{-1}, 59), 2),
		slices.Repeat([]int{-1}, 3000),
	} {
		if checkPlan(t, w, list) {
			t.Error("a plan", list)
		}
	}
	for _, n := range noNumbers[1:] {
		if checkPlan(t, w, []int{n}) || checkPlan(t, w, []int{-1, n, 0}) {
			t.Error("a plan", n)
		}
	}
	one := worksOf("1 0")
	if !checkPlan(t, one, nil) || checkPlan(t, one, []int{-1}) || checkPlan(t, one, []int{0}) || checkPlan(t, one, []int{1}) {
		t.Error("plans of one node without a lever")
	}
	if pulls := worksOf("1 9"); !checkPlan(t, pulls, []int{-1, -1, -1}) || checkPlan(t, pulls, []int{-1, 0}) {
		t.Error("plans of one node with levers")
	}
}

func TestPlansOfAllLists(t *testing.T) {
	plans, others := 0, 0
	for _, text := range []string{"1 0", "1 3", "2 1,0 0/1/1/1", "2 1,1 0/1/0/0", "3 1,2,0 0/1/1/1 0/2/2/1", "3 0,1,0 0/1/0/0 0/2/1/1 1/2/1/1"} {
		w := worksOf(text)
		lists(-2, w.Size, 5, func(list []int) {
			if checkPlan(t, w, list) {
				plans++
			} else {
				others++
			}
		})
	}
	if plans < 100 || others < 5000 {
		t.Error("too few plans or other lists:", plans, others)
	}
}

func TestPlansOfManyWorks(t *testing.T) {
	r := newRandom()
	atLimit := 0
	for _, w := range append(manyWorks(400), fullWorks(), worksOf(farthestWorks)) {
		table := plainWorks(w)
		list, s := []int{}, stand{}
		size := r.Intn(63)
		for len(list) < size && len(table.moves[s]) > 0 {
			m := table.moves[s][r.Intn(len(table.moves[s]))]
			list, s = append(list, m.act), m.to
		}
		if is := checkPlan(t, w, list); is != (len(list) <= 60) {
			t.Fatal("plan of", worksText(w), list, is)
		}
		if len(list) == 60 || len(list) == 61 {
			atLimit++
		}
		for range 3 {
			if len(list) > 0 {
				list[r.Intn(len(list))] = r.Intn(w.Size+2) - 2
				checkPlan(t, w, list)
			}
		}
	}
	if atLimit < 4 {
		t.Error("too few plans are as long as may be, or one longer:", atLimit)
	}
}

func TestSpanOfPulls(t *testing.T) {
	for _, c := range []struct {
		pulls []int
		want  int
	}{
		{[]int{0}, 1}, {[]int{63}, 2}, {[]int{0, 0, 0}, 1}, {[]int{5, 5, 5}, 2}, {[]int{1, 2}, 4}, {[]int{1, 3}, 4}, {[]int{1, 2, 3}, 4}, {[]int{3, 5, 6}, 4},
		{[]int{3, 5, 7}, 8}, {[]int{7, 0, 56, 63}, 4}, {[]int{1, 2, 4, 8, 16, 32}, 64}, {[]int{3, 6, 12, 24, 48, 33}, 32}, {[]int{1, 3, 7, 15, 31, 63}, 64},
		{[]int{3, 12, 48, 15, 51, 60, 63}, 8}, {[]int{1, 2, 4, 8, 16, 32, 63, 62, 61, 59, 55, 47}, 64}, {[]int{9, 18, 36, 27, 54, 45, 63, 0, 0, 0, 0, 9}, 8},
	} {
		w := impl.Works{Size: len(c.pulls), Pulls: c.pulls}
		got, ok := impl.SpanOfPulls(w)
		wantInt(t, "SpanOfPulls of "+commas(c.pulls), got, ok, c.want, true)
		if plainSpan(w) != c.want {
			t.Error("plainSpan of", c.pulls)
		}
	}
}

func TestAreApart(t *testing.T) {
	w := worksOf("4 1,2,0,0 0/1/1/1 1/2/2/1")
	for _, c := range []struct {
		x, a, y, b int
		want       bool
	}{
		{0, 0, 0, 0, false}, {0, 0, 0, 1, false}, {0, 0, 0, 3, false}, {0, 0, 1, 1, false}, {0, 0, 1, 0, true}, {0, 0, 2, 3, false}, {0, 0, 2, 0, true},
		{1, 0, 1, 2, false}, {1, 0, 2, 2, false}, {2, 0, 2, 0, false}, {2, 0, 2, 2, true}, {2, 0, 1, 0, true}, {3, 63, 3, 63, false}, {3, 0, 2, 0, true},
		{0, 0, 0, 4, true}, {0, 4, 0, 7, false}, {2, 7, 0, 4, false},
	} {
		for _, turn := range []bool{false, true} {
			x, a, y, b := c.x, c.a, c.y, c.b
			if turn {
				x, a, y, b = y, b, x, a
			}
			if apart, ok := impl.AreApart(w, x, a, y, b); apart != c.want || !ok {
				t.Error("AreApart", x, a, y, b, apart, ok)
			}
		}
	}
	for _, n := range append(noNumbers, 65) {
		for place := range 4 {
			v := [4]int{1, 1, 1, 1}
			v[place] = n
			if apart, ok := impl.AreApart(w, v[0], v[1], v[2], v[3]); apart || ok {
				t.Error("AreApart", v, apart, ok)
			}
		}
	}
	for _, v := range [][4]int{{4, 0, 0, 0}, {0, 0, 4, 0}, {4, 0, 4, 0}, {12, 0, 12, 0}} {
		if apart, ok := impl.AreApart(w, v[0], v[1], v[2], v[3]); apart || ok {
			t.Error("AreApart", v, apart, ok)
		}
	}
}

func TestAreApartOfManyWorks(t *testing.T) {
	r := newRandom()
	apart, together := 0, 0
	for _, w := range append(manyWorks(300), fullWorks(), worksOf(farthestWorks)) {
		table := plainWorks(w)
		for range 4 {
			from := table.stands[r.Intn(len(table.stands))]
			least := table.leastCosts(from, actCost)
			for range 10 {
				to := table.stands[r.Intn(len(table.stands))]
				_, can := least[to]
				if can {
					together++
				} else {
					apart++
				}
				there, thereOK := impl.AreApart(w, from[0], from[1], to[0], to[1])
				back, backOK := impl.AreApart(w, to[0], to[1], from[0], from[1])
				if there == can || back == can || !thereOK || !backOK {
					t.Error("AreApart of", worksText(w), from, to, there, back, thereOK, backOK)
				}
			}
		}
	}
	if apart < 1000 || together < 500 {
		t.Error("too few visits are apart or not:", apart, together)
	}
}

// plainTurn returns Works in which each gate has the number that it must have for a state.
func plainTurn(w impl.Works, levers int) impl.Works {
	turned := impl.Works{Size: w.Size, Pulls: slices.Clone(w.Pulls)}
	for _, g := range w.Gates {
		// It is even with all levers up; it must be as open as the old one is with the state.
		if plainGate(g, levers) {
			turned.Gates = append(turned.Gates, [4]int{g[0], g[1], g[2], 0})
		} else {
			turned.Gates = append(turned.Gates, [4]int{g[0], g[1], g[2], 1})
		}
	}
	turned.Gates = sortedGates(turned.Gates)
	return turned
}

func TestTurnLevers(t *testing.T) {
	for _, c := range []struct {
		text   string
		levers int
		want   string
	}{
		{"1 0", 0, "1 0"}, {"1 63", 63, "1 63"}, {"2 1,0 0/1/1/1", 0, "2 1,0 0/1/1/1"}, {"2 1,0 0/1/1/1", 1, "2 1,0 0/1/1/0"}, {"2 1,0 0/1/1/1", 2, "2 1,0 0/1/1/1"},
		{"2 1,0 0/1/1/0", 63, "2 1,0 0/1/1/1"}, {"2 1,0 0/1/3/0", 63, "2 1,0 0/1/3/0"}, {"2 1,0 0/1/3/0", 1, "2 1,0 0/1/3/1"}, {"2 0,0 0/1/0/0", 63, "2 0,0 0/1/0/0"},
		{"2 0,0 0/1/0/1", 21, "2 0,0 0/1/0/1"}, {"2 0,0 0/1/1/0 0/1/1/1", 1, "2 0,0 0/1/1/0 0/1/1/1"}, {"2 0,0 0/1/1/0 0/1/2/1", 3, "2 0,0 0/1/1/1 0/1/2/0"},
		{"3 5,6,7 0/1/1/0 0/1/1/1 0/2/5/0 1/2/4/1", 4, "3 5,6,7 0/1/1/0 0/1/1/1 0/2/5/1 1/2/4/0"}, {"2 1,0 0/1/1/1", 64, noWorks}, {"2 1,0 0/1/1/1", -1, noWorks},
		{"2 1,0 0/1/1/1", math.MaxInt, noWorks}, {"2 1,0 0/1/1/1", math.MinInt, noWorks}, {"2 1,0 0/1/1/1", 1 << 32, noWorks}, {"2 1,0 0/1/1/2", 0, noWorks},
	} {
		got, ok := impl.TurnLevers(worksOf(c.text), c.levers)
		if worksText(got) != c.want || ok != (c.want != noWorks) {
			t.Errorf("TurnLevers of %s, %d = %s, %v; want %s", c.text, c.levers, worksText(got), ok, c.want)
		}
	}
	for _, w := range append(manyWorks(300), fullWorks(), worksOf(farWorks)) {
		for levers := range 64 {
			turned, ok := impl.TurnLevers(w, levers)
			if !ok || worksText(turned) != worksText(plainTurn(w, levers)) || !impl.IsWorks(turned) {
				t.Fatal("TurnLevers of", worksText(w), levers, worksText(turned), ok)
			}
			again, ok := impl.TurnLevers(turned, levers)
			if !ok || worksText(again) != worksText(w) {
				t.Fatal("TurnLevers twice of", worksText(w), levers, worksText(again), ok)
			}
		}
	}
}

// What can be done in turned Works is what can be done in the Works behind the state.
func TestTurnedLeversBeginWithTheState(t *testing.T) {
	r := newRandom()
	for _, w := range manyWorks(200) {
		levers := r.Intn(64)
		turned, ok := impl.TurnLevers(w, levers)
		count, countOK := impl.CountVisits(turned)
		if !ok || !countOK || count != len(plainWorks(w).leastCosts(stand{0, levers}, actCost)) {
			t.Fatal("CountVisits behind TurnLevers of", worksText(w), levers, count, ok, countOK)
		}
		for x := range w.Size {
			other := r.Intn(64)
			now, nowOK := impl.ActsAt(turned, x, other^levers)
			then, thenOK := impl.ActsAt(w, x, other)
			if !nowOK || !thenOK || !slices.Equal(now, then) {
				t.Fatal("ActsAt behind TurnLevers of", worksText(w), levers, now, then)
			}
		}
	}
}

// Promise 8.
func TestEachActCanBeUndone(t *testing.T) {
	r := newRandom()
	acts := 0
	for _, w := range append(manyWorks(500), fullWorks(), worksOf(farWorks), worksOf(farthestWorks)) {
		for x := range w.Size {
			for range 8 {
				levers := r.Intn(64)
				possible, ok := impl.ActsAt(w, x, levers)
				if !ok {
					t.Fatal("ActsAt fails for", worksText(w), x, levers)
				}
				for _, act := range possible {
					y, behind, ok := impl.DoAct(w, x, levers, act)
					back := x
					if act == -1 {
						back = -1
					}
					z, last, backOK := impl.DoAct(w, y, behind, back)
					if !ok || !backOK || z != x || last != levers || y == x && behind == levers {
						t.Fatal("acts of", worksText(w), x, levers, act, "lead to", y, behind, "and back to", z, last)
					}
					acts++
				}
			}
		}
	}
	if acts < 10000 {
		t.Error("too few acts:", acts)
	}
}

// Promise 8.
func TestNoNodeHasMoreStatesThanPullsCanMake(t *testing.T) {
	all, fewer := 0, 0
	for _, w := range append(manyWorks(1500), fullWorks(), worksOf(farWorks), worksOf(farthestWorks)) {
		table, tableOK := impl.ReachTable(w)
		span, spanOK := impl.SpanOfPulls(w)
		visits, visitsOK := impl.CountVisits(w)
		if !tableOK || !spanOK || !visitsOK {
			t.Fatal("levers of", worksText(w), tableOK, spanOK, visitsOK)
		}
		sum := 0
		for _, states := range table {
			if len(states) > span {
				t.Fatal("states of", worksText(w), states, span)
			}
			if len(states) == span && span > 2 {
				all++
			}
			if len(states) < span && len(states) > 1 {
				fewer++
			}
			sum += len(states)
		}
		if sum != visits {
			t.Fatal("CountVisits of", worksText(w), visits, sum)
		}
	}
	if all < 200 || fewer < 200 {
		t.Error("too few nodes have all states that pulls make, or fewer:", all, fewer)
	}
}

// The guarantee of the chapter.
func TestLeversGuarantee(t *testing.T) {
	won := 0
	works := append(manyWorks(1000), worksOf(farWorks), longer(worksOf(farWorks), 1), longer(worksOf(farWorks), 2), worksOf(farthestWorks))
	for _, w := range works {
		fewest, can := impl.FewestActs(w)
		plan, planned := impl.FirstPlan(w)
		pulls, pulled := impl.FewestPulls(w)
		if can != pulled || planned != (can && fewest <= impl.MaxActs) || pulls > fewest {
			t.Fatal("levers of", worksText(w), fewest, can, plan, planned, pulls, pulled)
		}
		if !planned {
			continue
		}
		won++
		is, isOK := impl.IsPlan(w, plan)
		x, levers, ok := impl.RunPlan(w, plan)
		if len(plan) != fewest || !is || !isOK || x != w.Size-1 || !ok {
			t.Fatal("FirstPlan of", worksText(w), plan, fewest, is, isOK, x, ok)
		}
		if apart, ok := impl.AreApart(w, 0, 0, x, levers); apart || !ok {
			t.Fatal("AreApart of", worksText(w), x, levers, apart, ok)
		}
	}
	if won < 300 {
		t.Error("too few Works are won:", won)
	}
}

func TestLeversOfNoWorks(t *testing.T) {
	for _, w := range oddWorks() {
		name := shorten(worksText(w))
		for x := -1; x < 3; x++ {
			for _, levers := range []int{-1, 0, 1, 63} {
				if open, ok := impl.GateOpen(w, x, levers); open || ok {
					t.Error("GateOpen of", name, open, ok)
				}
				got, ok := impl.ActsAt(w, x, levers)
				wantNoList(t, "ActsAt of "+name, got, ok)
				for act := -1; act < 3; act++ {
					checkNoAct(t, w, stand{x, levers}, act)
				}
				if apart, ok := impl.AreApart(w, x, levers, x, levers); apart || ok {
					t.Error("AreApart of", name, apart, ok)
				}
				turned, ok := impl.TurnLevers(w, levers)
				if worksText(turned) != noWorks || ok {
					t.Error("TurnLevers of", name, worksText(turned), ok)
				}
			}
		}
		for _, list := range [][]int{nil, {}, {-1}, {0}, {1}, {-1, 1}} {
			if is, ok := impl.IsPlan(w, list); is || ok {
				t.Error("IsPlan of", name, list, is, ok)
			}
			if x, levers, ok := impl.RunPlan(w, list); x != 0 || levers != 0 || ok {
				t.Error("RunPlan of", name, list, x, levers, ok)
			}
		}
		for function, ask := range map[string]func(impl.Works) (int, bool){
			"FewestActs": impl.FewestActs, "CountVisits": impl.CountVisits, "FewestPulls": impl.FewestPulls, "SpanOfPulls": impl.SpanOfPulls,
		} {
			got, ok := ask(w)
			wantInt(t, function+" of "+name, got, ok, 0, false)
		}
		plan, ok := impl.FirstPlan(w)
		wantNoList(t, "FirstPlan of "+name, plan, ok)
		if table, ok := impl.ReachTable(w); len(table) != 0 || ok {
			t.Error("ReachTable of", name, table, ok)
		}
	}
}

func TestLeversAreTotal(t *testing.T) {
	works := append(oddWorks(), worksOf("1 0"), worksOf("1 63"), worksOf("2 0,0"), worksOf("2 1,0 0/1/1/1"), worksOf("3 1,2,0 0/1/1/1 0/2/2/1"),
		worksOf("3 1,2,0 0/1/1/0 0/1/1/1"), fullWorks(), worksOf(farWorks), worksOf(farthestWorks))
	numbers := []int{-2, -1, 0, 1, 2, 12, 63, 64, math.MaxInt, math.MinInt}
	plans := [][]int{nil, {}, {-1}, {1}, {-1, 1}, {-1, -1, -1}, {0}, {-2}, {-1, math.MaxInt}, {math.MinInt}, slices.Repeat([]int{-1}, 60), slices.Repeat([]int{-1}, 61)}
	checkTotal(t, []named{
		{"IsWorks", impl.IsWorks}, {"GateOpen", impl.GateOpen}, {"ActsAt", impl.ActsAt}, {"DoAct", impl.DoAct}, {"IsPlan", impl.IsPlan}, {"RunPlan", impl.RunPlan},
		{"FewestActs", impl.FewestActs}, {"FirstPlan", impl.FirstPlan}, {"CountVisits", impl.CountVisits}, {"ReachTable", impl.ReachTable},
		{"FewestPulls", impl.FewestPulls}, {"SpanOfPulls", impl.SpanOfPulls}, {"TurnLevers", impl.TurnLevers},
	}, []any{works, numbers, plans})
	checkTotal(t, []named{{"AreApart", impl.AreApart}}, []any{works[len(works)-9:], []int{-1, 0, 1, 2, 63, 64}})
}
