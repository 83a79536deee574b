package tests

import (
	"math"
	"slices"
	"strings"
	"testing"

	"loop.example/g00960/impl"
)

func smallAt(qp int) impl.Cond { return impl.Cond{Qp: qp} }
func largeAt(qp int) impl.Cond { return impl.Cond{Qp: qp, Large: true} }
func exactAt(qp int) impl.Cond { return impl.Cond{Qp: qp, Exact: true} }

func keyed(c impl.Cond) impl.Cond {
	c.Key = true
	return c
}

// condsAt are the right ones with a qp, one for each way to turn.
func condsAt(qp int) []impl.Cond {
	return []impl.Cond{smallAt(qp), largeAt(qp), exactAt(qp)}
}

func rightConds() []impl.Cond {
	conds := []impl.Cond{}
	for qp := 0; qp <= impl.MaxQp; qp++ {
		conds = append(conds, condsAt(qp)...)
	}
	return conds
}

// someConds have a qp of each rest and of each quotient, the least one and the greatest one among them.
func someConds() []impl.Cond {
	conds := []impl.Cond{}
	for _, qp := range []int{0, 1, 8, 15, 22, 29, 36, impl.MaxQp} {
		conds = append(conds, condsAt(qp)...)
	}
	return conds
}

func wrongConds() []impl.Cond {
	conds := []impl.Cond{}
	for qp := 0; qp <= impl.MaxQp; qp++ {
		conds = append(conds, impl.Cond{Qp: qp, Large: true, Exact: true})
	}
	for _, qp := range append(wrongQps(), -1, impl.MaxQp+1) {
		conds = append(append(conds, condsAt(qp)...), impl.Cond{Qp: qp, Large: true, Exact: true})
	}
	for _, c := range conds {
		conds = append(conds, keyed(c))
	}
	return conds
}

// quarterPlacesOf are the places of the four quarters in 8 rows of 8, written out in the chapter's order.
func quarterPlacesOf() [][]int {
	return [][]int{
		{0, 1, 2, 3, 8, 9, 10, 11, 16, 17, 18, 19, 24, 25, 26, 27},
		{4, 5, 6, 7, 12, 13, 14, 15, 20, 21, 22, 23, 28, 29, 30, 31},
		{32, 33, 34, 35, 40, 41, 42, 43, 48, 49, 50, 51, 56, 57, 58, 59},
		{36, 37, 38, 39, 44, 45, 46, 47, 52, 53, 54, 55, 60, 61, 62, 63},
	}
}

// inQuarters puts four lists where the quarters are.
func inQuarters(lists ...[]int) []int {
	square := make([]int, 64)
	for quarter, places := range quarterPlacesOf() {
		for i, place := range places {
			square[place] = lists[quarter][i]
		}
	}
	return square
}

func eachLevel(list []int, level func(w, place int) int) []int {
	levels := make([]int, len(list))
	for place, w := range list {
		levels[place] = max(level(w, place), level(-w, place))
		if w < 0 {
			levels[place] = -levels[place]
		}
	}
	return levels
}

// smallLevelBy and largeLevelBy are asked for both signs, of which eachLevel takes the one that is not below 0.
func smallLevelBy(qp int) func(w, place int) int {
	whole := timesTwo(32768, qp/6)
	return func(w, place int) int { return (w*sharesOf()[qp%6][placeKindsOf()[place]] + whole/3) / whole }
}

func largeLevelBy(qp int) func(w, place int) int {
	step := stepSizes()[qp]
	return func(w, place int) int { return (w + step/2) / step }
}

// levelsBy goes by the orders, signs and shares that are written out in these tests.
func levelsBy(left []int, c impl.Cond) []int {
	switch {
	case c.Exact:
		return scannedBy(8, left)
	case c.Large:
		return scannedBy(8, eachLevel(eightByShares(left), largeLevelBy(c.Qp)))
	}
	levels := []int{}
	for _, places := range quarterPlacesOf() {
		quarter := []int{}
		for _, place := range places {
			quarter = append(quarter, left[place])
		}
		levels = append(levels, scannedBy(4, eachLevel(fourByShares(quarter), smallLevelBy(c.Qp)))...)
	}
	return levels
}

func backBy(levels []int, c impl.Cond) []int {
	switch {
	case c.Exact:
		return unscannedBy(8, levels)
	case c.Large:
		turned := unscannedBy(8, levels)
		for place := range turned {
			turned[place] *= stepSizes()[c.Qp]
		}
		return eightBackByShares(turned)
	}
	lists := [][]int{}
	for quarter := range 4 {
		turned := unscannedBy(4, levels[16*quarter:16*quarter+16])
		for place, kind := range placeKindsOf() {
			turned[place] *= timesTwo(scalesOf()[c.Qp%6][kind], c.Qp/6)
		}
		lists = append(lists, fourBackBySteps(turned))
	}
	return inQuarters(lists...)
}

// levelsSigns joins the rows of the pieces that the chapter names.
func levelsSigns(levels []int, c impl.Cond) string {
	if c.Large || c.Exact {
		return runsSigns(levels)
	}
	return runsSigns(levels[:16]) + runsSigns(levels[16:32]) + runsSigns(levels[32:48]) + runsSigns(levels[48:])
}

// unlikeQuarters have numbers from which each quarter, and each place in it, can be told.
func unlikeQuarters(limit int) [][]int {
	up, ends := upTo(16), make([]int, 16)
	for place := range ends {
		ends[place] = limit - 3*place
	}
	lists := [][]int{
		inQuarters(allAlike(16, 1), allAlike(16, 2), allAlike(16, 3), allAlike(16, 4)),
		inQuarters(allAlike(16, 50), allAlike(16, -limit), allAlike(16, 0), allAlike(16, limit)),
		inQuarters(up, ends, alone(16, 1, limit), alone(16, 4, -limit)),
		inQuarters(alone(16, 3, 40), allAlike(16, 0), up, ends),
		inQuarters(ends, up, alone(16, 12, limit), alone(16, 2, 77)),
	}
	for place := range 64 {
		lists = append(lists, alone(64, place, limit-place), alone(64, place, place-limit))
	}
	return lists
}

func diffLists() [][]int {
	return append(unlikeQuarters(impl.MaxDiff), eightLists(impl.MaxDiff)...)
}

func shortDiffLists() [][]int {
	lists := append(unlikeQuarters(impl.MaxDiff)[:5], allAlike(64, 0), allAlike(64, impl.MaxDiff), allAlike(64, -impl.MaxDiff), upTo(64))
	for place := range 64 {
		lists = append(lists, signSquare(place/8, place%8, impl.MaxDiff))
	}
	return append(append(lists, drawn(20, 64, impl.MaxDiff)...), drawn(10, 64, 9)...)
}

func levelLists() [][]int {
	lists := append(unlikeQuarters(impl.MaxLevel), runsLists(64)[:400]...)
	lists = append(lists, allAlike(64, impl.MaxLevel), allAlike(64, -impl.MaxLevel), upTo(64))
	for _, limit := range []int{1, 30, impl.MaxLevel} {
		lists = append(append(lists, drawn(20, 64, limit)...), sparse(20, 64, limit, 8)...)
	}
	return lists
}

func shortLevelLists() [][]int {
	lists := append(unlikeQuarters(impl.MaxLevel)[:5], allAlike(64, 0), allAlike(64, impl.MaxLevel), allAlike(64, -impl.MaxLevel), upTo(64))
	return append(append(lists, drawn(10, 64, impl.MaxLevel)...), sparse(10, 64, 60, 5)...)
}

// oneAnswer makes a list of what is answered; a true without a list, and a list beside a false, are seen as -1 alone.
func oneAnswer(list []int, ok bool) []int {
	if ok == (len(list) == 0) {
		return []int{-1}
	}
	return list
}

func levelTurns(c impl.Cond) []listTurn {
	return []listTurn{
		{"LevelsOf", 64, impl.MaxDiff, func(x []int) []int { return oneAnswer(impl.LevelsOf(x, c)) }, func(x []int) []int { return levelsBy(x, c) }},
		{"LevelsBack", 64, impl.MaxLevel, func(x []int) []int { return oneAnswer(impl.LevelsBack(x, c)) }, func(x []int) []int { return backBy(x, c) }},
	}
}

func wantLevels(t *testing.T, left []int, c impl.Cond, want []int) {
	t.Helper()
	if got, ok := impl.LevelsOf(left, c); !ok || !slices.Equal(got, want) {
		t.Fatalf("LevelsOf(%v, %+v): %v, %v; want %v", left, c, got, ok, want)
	}
}

func wantBack(t *testing.T, levels []int, c impl.Cond, want []int) {
	t.Helper()
	if got, ok := impl.LevelsBack(levels, c); !ok || !slices.Equal(got, want) {
		t.Fatalf("LevelsBack(%v, %+v): %v, %v; want %v", levels, c, got, ok, want)
	}
}

func wantLevelsRow(t *testing.T, levels []int, c impl.Cond, want string) {
	t.Helper()
	if got, ok := impl.LevelsRow(levels, c); !ok || got != want {
		t.Fatalf("LevelsRow(%v, %+v): %q, %v; want %q", levels, c, got, ok, want)
	}
}

func wantNoLevelsRow(t *testing.T, levels []int, c impl.Cond) {
	t.Helper()
	if got, ok := impl.LevelsRow(levels, c); ok || got != "" {
		t.Fatalf("LevelsRow of %d levels %v, %+v: %.60q, %v; want a refusal", len(levels), levels, c, got, ok)
	}
}

func wantLevelsAt(t *testing.T, row string, at int, c impl.Cond, want []int, wantBehind int) {
	t.Helper()
	if got, behind, ok := impl.ReadLevels(row, at, c); !ok || behind != wantBehind || !slices.Equal(got, want) {
		t.Fatalf("ReadLevels(%.60q, %d, %+v): %v, %d, %v; want %v, %d", row, at, c, got, behind, ok, want, wantBehind)
	}
}

func wantNoLevelsAt(t *testing.T, row string, at int, c impl.Cond) {
	t.Helper()
	if got, behind, ok := impl.ReadLevels(row, at, c); ok || behind != 0 || len(got) != 0 {
		t.Fatalf("ReadLevels(%.60q, %d, %+v): %v, %d, %v; want a refusal", row, at, c, got, behind, ok)
	}
}

func wantJoined(t *testing.T, guess, left, want []int) {
	t.Helper()
	if got := impl.Joined(guess, left); !slices.Equal(got, want) {
		t.Fatalf("Joined(%v, %v): %v; want %v", guess, left, got, want)
	}
}

func wantNotJoined(t *testing.T, guess, left []int) {
	t.Helper()
	if got := impl.Joined(guess, left); len(got) != 0 {
		t.Fatalf("Joined of %d and %d numbers, %v and %v: %v; want none", len(guess), len(left), guess, left, got)
	}
}

func TestLeftLimits(t *testing.T) {
	if impl.MaxDiff != 255 {
		t.Error("a constant is not the chapter's")
	}
}

func TestCondOk(t *testing.T) {
	if !impl.CondOk(impl.Cond{}) {
		t.Error("the zero Cond should be right")
	}
	for _, c := range rightConds() {
		if !impl.CondOk(c) || !impl.CondOk(keyed(c)) {
			t.Errorf("%+v should be right", c)
		}
	}
	for _, c := range wrongConds() {
		if impl.CondOk(c) {
			t.Errorf("%+v should not be right", c)
		}
	}
}

func TestLevelsOfSmallByHand(t *testing.T) {
	// Sixteen tens make 160, of which 64 steps are kept: their shares and a third are 64 wholes and 10890 more.
	wantLevels(t, allAlike(64, 10), smallAt(0), slices.Repeat(alone(16, 0, 64), 4))
	four := inQuarters(allAlike(16, 10), allAlike(16, 20), allAlike(16, -30), allAlike(16, 40))
	wantLevels(t, four, smallAt(0), slices.Concat(alone(16, 0, 64), alone(16, 0, 128), alone(16, 0, -192), alone(16, 0, 256)))
	wantLevels(t, four, smallAt(6), slices.Concat(alone(16, 0, 32), alone(16, 0, 64), alone(16, 0, -96), alone(16, 0, 128)))
	wantLevels(t, four, smallAt(40), slices.Concat(alone(16, 0, 0), alone(16, 0, 1), alone(16, 0, -2), alone(16, 0, 2)))
	// A hundred in the second place of its quarter turns into rows of 100, 100, -100, -200, the second one twice as much.
	one := []int{40, 24, 49, 40, 32, -40, -49, -49, 24, 24, 16, -40, -64, -49, -24, -32}
	for quarter, at := range []int{1, 5, 33, 37} {
		want := make([]int, 64)
		copy(want[16*quarter:], one)
		wantLevels(t, alone(64, at, 100), smallAt(0), want)
	}
}

func TestLevelsOfLargeByHand(t *testing.T) {
	wantLevels(t, allAlike(64, 255), largeAt(0), alone(64, 0, 1632))
	wantLevels(t, allAlike(64, -255), largeAt(40), alone(64, 0, -16))
	wantLevels(t, alone(64, 0, 25), largeAt(0), allAlike(64, 3))
	wantLevels(t, alone(64, 0, 24), largeAt(0), allAlike(64, 2))
	wantLevels(t, alone(64, 0, -25), largeAt(0), allAlike(64, -3))
	wantLevels(t, alone(64, 63, 4), largeAt(0), allAlike(64, 0))
	wantLevels(t, alone(64, 1, 10), largeAt(0), scannedBy(8, slices.Repeat(row(1, -1), 32)))
	wantLevels(t, alone(64, 8, 10), largeAt(0), scannedBy(8, slices.Repeat(append(allAlike(8, 1), allAlike(8, -1)...), 4)))
	wantLevels(t, signSquare(0, 1, 10), largeAt(6), alone(64, 1, 32))
	wantLevels(t, signSquare(1, 0, 10), largeAt(6), alone(64, 2, 32))
	wantLevels(t, signSquare(2, 0, 10), largeAt(6), alone(64, 3, 32))
}

func TestLevelsOfExactByHand(t *testing.T) {
	wantLevels(t, upTo(64), exactAt(0), scanOrders()[8])
	wantLevels(t, upTo(64), exactAt(40), scanOrders()[8])
	wantLevels(t, alone(64, 8, -255), exactAt(7), alone(64, 2, -255))
	wantLevels(t, alone(64, 16, 3), exactAt(0), alone(64, 3, 3))
}

func TestLevelsBackByHand(t *testing.T) {
	four := slices.Concat(alone(16, 0, 64), alone(16, 0, -128), alone(16, 0, 0), alone(16, 0, 5000))
	wantBack(t, four, smallAt(0), inQuarters(allAlike(16, 10), allAlike(16, -20), allAlike(16, 0), allAlike(16, 781)))
	// The third level of a quarter is the first number of its second row: 13 times 5 are 65.
	for quarter := range 4 {
		lists := [][]int{allAlike(16, 0), allAlike(16, 0), allAlike(16, 0), allAlike(16, 0)}
		lists[quarter] = []int{1, 1, 1, 1, 1, 1, 1, 1, 0, 0, 0, 0, -1, -1, -1, -1}
		wantBack(t, alone(64, 16*quarter+2, 5), smallAt(0), inQuarters(lists...))
	}
	wantBack(t, alone(64, 0, 6), largeAt(0), allAlike(64, 1))
	wantBack(t, alone(64, 0, 5000), largeAt(40), allAlike(64, 80000))
	wantBack(t, alone(64, 0, -5000), largeAt(40), allAlike(64, -80000))
	wantBack(t, alone(64, 2, 32), largeAt(6), signSquare(1, 0, 10))
	wantBack(t, allAlike(64, 5000), largeAt(40), alone(64, 0, 5120000))
	wantBack(t, scanOrders()[8], exactAt(0), upTo(64))
	wantBack(t, alone(64, 2, -5000), exactAt(40), alone(64, 8, -5000))
}

func TestLevelsAreWhatTheChapterTells(t *testing.T) {
	for _, c := range someConds() {
		turns := levelTurns(c)
		checkTurns(t, turns[0], diffLists())
		checkTurns(t, turns[1], levelLists())
	}
	for _, c := range rightConds() {
		turns := levelTurns(c)
		checkTurns(t, turns[0], shortDiffLists())
		checkTurns(t, turns[1], shortLevelLists())
	}
}

func TestExactLevelsComeBackWhole(t *testing.T) {
	for _, qp := range []int{0, 1, 17, impl.MaxQp} {
		for _, left := range diffLists() {
			levels, ok := impl.LevelsOf(left, exactAt(qp))
			if !ok {
				t.Fatalf("LevelsOf(%v): none", left)
			}
			wantBack(t, levels, exactAt(qp), left)
		}
	}
}

func checkOffByHalfAStep(t *testing.T, left []int, qp int) {
	t.Helper()
	levels, _ := impl.LevelsOf(left, largeAt(qp))
	back, ok := impl.LevelsBack(levels, largeAt(qp))
	if !ok || len(back) != 64 {
		t.Fatalf("%v with the qp %d: %v, %v", left, qp, back, ok)
	}
	for place, n := range left {
		if off := 2 * (back[place] - n); off > impl.StepOf(qp) || -off > impl.StepOf(qp) {
			t.Fatalf("%v with the qp %d comes back as %v: too far off at %d", left, qp, back, place)
		}
	}
}

func TestLargeLevelsAreOffByHalfAStepAtMost(t *testing.T) {
	lists := append(diffLists(), drawn(300, 64, impl.MaxDiff)...)
	for qp := 0; qp <= impl.MaxQp; qp++ {
		for _, left := range lists {
			checkOffByHalfAStep(t, left, qp)
		}
	}
}

// Of numbers whose sums are whole steps nothing is lost, by small levels neither.
func TestFlatQuartersComeBack(t *testing.T) {
	for n := -impl.MaxDiff; n <= impl.MaxDiff; n += 5 {
		left := inQuarters(allAlike(16, n), allAlike(16, -n), allAlike(16, 0), allAlike(16, n))
		for _, c := range []impl.Cond{smallAt(0), largeAt(0), exactAt(0)} {
			levels, _ := impl.LevelsOf(left, c)
			wantBack(t, levels, c, left)
		}
	}
}

func TestLevelsOfOtherLists(t *testing.T) {
	for _, c := range someConds() {
		for _, f := range levelTurns(c) {
			checkOtherLists(t, f)
		}
	}
}

func TestNumbersAtTheLimits(t *testing.T) {
	for _, c := range condsAt(0) {
		for place := range 64 {
			for _, n := range []int{impl.MaxDiff, -impl.MaxDiff} {
				wantLevels(t, alone(64, place, n), c, levelsBy(alone(64, place, n), c))
			}
			for _, n := range []int{impl.MaxLevel, -impl.MaxLevel} {
				levels := alone(64, place, n)
				wantBack(t, levels, c, backBy(levels, c))
				wantLevelsRow(t, levels, c, levelsSigns(levels, c))
			}
			for _, n := range []int{impl.MaxDiff + 1, -impl.MaxDiff - 1} {
				if got, ok := impl.LevelsOf(alone(64, place, n), c); ok || len(got) != 0 {
					t.Fatalf("LevelsOf %d at %d, %+v: %v, %v", n, place, c, got, ok)
				}
			}
			for _, n := range beyond(impl.MaxLevel) {
				wantNoLevelsRow(t, alone(64, place, n), c)
				wantNoLevelsRow(t, sumsOf(allAlike(64, 5), alone(64, place, n-5)), c)
			}
		}
	}
}

func TestNothingOfAWrongCond(t *testing.T) {
	for _, c := range wrongConds() {
		for _, list := range [][]int{nil, allAlike(64, 0), upTo(64), allAlike(63, 1)} {
			for _, f := range levelTurns(c) {
				wantNoTurn(t, f, list)
			}
			wantNoLevelsRow(t, list, c)
		}
		for _, row := range []string{"", "1", "1111", strings.Repeat("1", 64), levelsSigns(upTo(64), smallAt(0)), levelsSigns(upTo(64), largeAt(0))} {
			wantNoLevelsAt(t, row, 0, c)
			wantNoLevelsAt(t, row, len(row), c)
		}
	}
}

func TestJoinedByHand(t *testing.T) {
	wantJoined(t, allAlike(64, 0), allAlike(64, 0), allAlike(64, 0))
	wantJoined(t, allAlike(64, 255), allAlike(64, 0), allAlike(64, 255))
	wantJoined(t, allAlike(64, 0), allAlike(64, -1), allAlike(64, 0))
	wantJoined(t, allAlike(64, 0), allAlike(64, 255), allAlike(64, 255))
	wantJoined(t, allAlike(64, 0), allAlike(64, 256), allAlike(64, 255))
	wantJoined(t, allAlike(64, 255), allAlike(64, 1), allAlike(64, 255))
	wantJoined(t, allAlike(64, 255), allAlike(64, -255), allAlike(64, 0))
	wantJoined(t, allAlike(64, 255), allAlike(64, -256), allAlike(64, 0))
	wantJoined(t, allAlike(64, 255), allAlike(64, impl.MaxBack), allAlike(64, 255))
	wantJoined(t, allAlike(64, 255), allAlike(64, -impl.MaxBack), allAlike(64, 0))
	wantJoined(t, upTo(64), upTo(64), eachPlace(func(place int) int { return 2 * place }))
	wantJoined(t, upTo(64), eachPlace(func(place int) int { return -2 * place }), allAlike(64, 0))
}

func eachPlace(dot func(place int) int) []int {
	list := make([]int, 64)
	for place := range list {
		list[place] = dot(place)
	}
	return list
}

// Each dot is joined with numbers about those at which the sum passes 0 and 255, and with the limits.
func TestJoinedOfEachDot(t *testing.T) {
	for dot := range 256 {
		lefts := []int{-dot - 1, -dot, 1 - dot, -1, 0, 1, 254 - dot, 255 - dot, 256 - dot, -256, 256, impl.MaxBack, -impl.MaxBack, impl.MaxBack - 1, 1 - impl.MaxBack}
		for i, left := range lefts {
			place := (dot + 5*i) % 64
			want := sumsOf(allAlike(64, 100), alone(64, place, min(255, max(0, dot+left))-100))
			wantJoined(t, sumsOf(allAlike(64, 100), alone(64, place, dot-100)), alone(64, place, left), want)
		}
	}
}

func someDots() [][]int {
	lists := [][]int{allAlike(64, 0), allAlike(64, 255), upTo(64), slices.Repeat(row(0, 255), 32), slices.Repeat(row(255, 0), 32)}
	for _, list := range drawn(20, 64, 127) {
		lists = append(lists, sumsOf(list, allAlike(64, 127)), sumsOf(list, allAlike(64, 128)))
	}
	return lists
}

// What is joined of dots and their difference to others are these others, also by way of exact levels.
func TestDotsAndTheirDifference(t *testing.T) {
	for _, guess := range someDots() {
		wantJoined(t, guess, allAlike(64, 0), guess)
		for _, want := range someDots() {
			left := eachPlace(func(place int) int { return want[place] - guess[place] })
			wantJoined(t, guess, left, want)
			levels, _ := impl.LevelsOf(left, exactAt(3))
			back, _ := impl.LevelsBack(levels, exactAt(3))
			wantJoined(t, guess, back, want)
		}
	}
}

func TestJoinedOfOthers(t *testing.T) {
	dots, left := allAlike(64, 128), allAlike(64, 3)
	for _, size := range []int{0, 1, 8, 16, 63, 65, 128} {
		wantNotJoined(t, allAlike(size, 128), left)
		wantNotJoined(t, dots, allAlike(size, 3))
		wantNotJoined(t, allAlike(size, 128), allAlike(size, 3))
	}
	wantNotJoined(t, nil, left)
	wantNotJoined(t, dots, nil)
	wantNotJoined(t, nil, nil)
	for place := range 64 {
		for _, n := range append(beyond(255), -1, 256, 1000, -255) {
			wantNotJoined(t, sumsOf(dots, alone(64, place, n-128)), left)
			wantNotJoined(t, alone(64, place, n), left)
		}
		for _, n := range append(beyond(impl.MaxBack), math.MinInt+128, math.MaxInt-127) {
			wantNotJoined(t, dots, alone(64, place, n))
			wantNotJoined(t, dots, sumsOf(left, alone(64, place, n-3)))
		}
	}
}

func TestLevelsRowByHand(t *testing.T) {
	nothing := allAlike(64, 0)
	for _, c := range []impl.Cond{largeAt(0), exactAt(0), largeAt(40), exactAt(40)} {
		wantLevelsRow(t, nothing, c, "1")
		wantLevelsRow(t, alone(64, 16, 1), c, "010"+"000010001"+"010")
		wantLevelsRow(t, alone(64, 63, -1), c, "010"+"0000001000000"+"011")
		wantLevelsRow(t, allAlike(64, 1), c, "0000001000001"+strings.Repeat("1010", 64))
	}
	for _, c := range []impl.Cond{smallAt(0), smallAt(40)} {
		wantLevelsRow(t, nothing, c, "1111")
		wantLevelsRow(t, alone(64, 0, 1), c, "010"+"1"+"010"+"111")
		wantLevelsRow(t, alone(64, 16, 1), c, "1"+"010"+"1"+"010"+"11")
		wantLevelsRow(t, alone(64, 33, 1), c, "11"+"010"+"010"+"010"+"1")
		wantLevelsRow(t, alone(64, 63, -1), c, "111"+"010"+"000010000"+"011")
		wantLevelsRow(t, allAlike(64, 1), c, strings.Repeat("000010001"+strings.Repeat("1010", 16), 4))
		wantLevelsRow(t, slices.Concat(alone(16, 0, 1), alone(16, 0, -1), alone(16, 0, 2), alone(16, 0, -2)), c, "0101010"+"0101011"+"010100100"+"010100101")
	}
}

// Each row stands amid other signs, none of which may be taken for its own.
func TestLevelsComeBackFromTheirRows(t *testing.T) {
	for _, c := range append(condsAt(0), condsAt(impl.MaxQp)...) {
		for _, levels := range levelLists() {
			row := levelsSigns(levels, c)
			wantLevelsRow(t, levels, c, row)
			for _, ahead := range []string{"", "0", "1", "0000000", longRow(41)} {
				for _, behind := range []string{"", "0", "1", "000000000000000000000", longRow(37)} {
					wantLevelsAt(t, ahead+row+behind, len(ahead), c, levels, len(ahead)+len(row))
				}
			}
		}
	}
	for _, c := range rightConds() {
		for _, levels := range shortLevelLists() {
			row := levelsSigns(levels, c)
			wantLevelsRow(t, levels, c, row)
			wantLevelsAt(t, "10"+row+"0", 2, c, levels, 2+len(row))
		}
	}
}

func TestSquaresOneBehindTheOther(t *testing.T) {
	conds, lists := rightConds(), sparse(200, 64, 90, 6)
	signs := "1"
	for i, levels := range lists {
		row, _ := impl.LevelsRow(levels, conds[i%len(conds)])
		signs += row
	}
	at := 1
	for i, levels := range lists {
		c := conds[i%len(conds)]
		wantLevelsAt(t, signs, at, c, levels, at+len(levelsSigns(levels, c)))
		at += len(levelsSigns(levels, c))
	}
	if at != len(signs) {
		t.Errorf("the squares end at %d of %d", at, len(signs))
	}
}

func TestLevelsRowOfOtherLists(t *testing.T) {
	for _, c := range condsAt(5) {
		wantNoLevelsRow(t, nil, c)
		for _, size := range []int{0, 1, 4, 15, 16, 17, 32, 48, 63, 65, 80, 128, 256} {
			wantNoLevelsRow(t, allAlike(size, 0), c)
			wantNoLevelsRow(t, allAlike(size, 1), c)
		}
	}
}

func TestARowThatEndsWithinItsSquare(t *testing.T) {
	lists := append(sparse(10, 64, 300, 2), allAlike(64, 0), allAlike(64, 1), upTo(64), alone(64, 63, -impl.MaxLevel), alone(64, 0, impl.MaxLevel), alone(64, 40, 2))
	for _, c := range condsAt(9) {
		for _, levels := range lists {
			row := levelsSigns(levels, c)
			for cut := range len(row) {
				wantNoLevelsAt(t, row[:cut], 0, c)
				wantNoLevelsAt(t, "101"+row[:cut], 3, c)
			}
			wantLevelsAt(t, "101"+row, 3, c, levels, 3+len(row))
		}
	}
}

func TestRowsWithTooManyLevels(t *testing.T) {
	many := func(size int) string { return ueRowOf(size) + strings.Repeat("1010", size) }
	for _, c := range []impl.Cond{largeAt(2), exactAt(2)} {
		wantLevelsAt(t, many(64), 0, c, allAlike(64, 1), len(many(64)))
		wantNoLevelsAt(t, many(65), 0, c)
		wantNoLevelsAt(t, many(65)+"1111", 0, c)
		wantNoLevelsAt(t, ueRowOf(impl.MaxUe)+many(64), 0, c)
		wantNoLevelsAt(t, signsOf(1, 64, 1), 0, c)
		wantNoLevelsAt(t, signsOf(2, 62, 1, 1, 1)+"1111", 0, c)
	}
	for quarter := range 4 {
		ahead, behind := strings.Repeat(many(16), quarter), strings.Repeat("1", 3-quarter)
		ones := append(allAlike(16*quarter, 1), alone(64-16*quarter, 15, 4)...)
		last := ahead + signsOf(1, 15, 4) + behind
		wantLevelsAt(t, last, 0, smallAt(2), ones, len(last))
		// What is behind the end of a quarter does not run on into the next one.
		for _, wrong := range []string{many(17), many(64), ueRowOf(impl.MaxUe) + many(16), signsOf(1, 16, 4), signsOf(2, 14, 4, 1, 4), signsOf(1, 3, 0), signsOf(1, 3, impl.MaxLevel+1), signsOf(1, 3, -impl.MaxLevel-1)} {
			wantNoLevelsAt(t, ahead+wrong+behind, 0, smallAt(2))
			wantNoLevelsAt(t, ahead+wrong+behind+"1111", 0, smallAt(2))
		}
	}
}

// levelsReadAt is what ReadLevels must answer at a place of a row, a piece after the other.
func levelsReadAt(row string, at int, c impl.Cond) ([]int, int, bool) {
	if c.Large || c.Exact {
		return runsReadAt(row, at, 64)
	}
	levels := []int{}
	for range 4 {
		quarter, behind, ok := runsReadAt(row, at, 16)
		if !ok {
			return nil, 0, false
		}
		levels, at = append(levels, quarter...), behind
	}
	return levels, at, true
}

func checkLevelsAt(t *testing.T, row string, at int, c impl.Cond) {
	t.Helper()
	want, wantBehind, wantOk := levelsReadAt(row, at, c)
	if !wantOk {
		wantNoLevelsAt(t, row, at, c)
		return
	}
	wantLevelsAt(t, row, at, c, want, wantBehind)
	wantLevelsRow(t, want, c, row[at:wantBehind])
}

// plainRows are long rows of a few signs again and again, and one that is mixed.
func plainRows() []string {
	rows := []string{longRow(1500), strings.Repeat("0110010", 150)}
	for _, signs := range []string{"0", "1", "01", "011"} {
		rows = append(rows, strings.Repeat(signs, 200))
	}
	return rows
}

// eachPlaceOfRows goes through all rows of up to so many signs, and these others, with the places about their ends.
func eachPlaceOfRows(most int, rows []string, look func(row string, at int)) {
	lookThrough := func(row string) {
		for at := -2; at <= len(row)+2; at++ {
			look(row, at)
		}
	}
	everyText("01", most, lookThrough)
	for _, row := range rows {
		lookThrough(row)
	}
}

func TestReadLevelsAtEachPlaceOfEachRow(t *testing.T) {
	rows := plainRows()
	for _, levels := range sparse(20, 64, 60, 3) {
		rows = append(rows, longRow(19)+levelsSigns(levels, smallAt(4))+levelsSigns(levels, largeAt(4))+longRow(23))
	}
	eachPlaceOfRows(10, rows, func(row string, at int) {
		for _, c := range condsAt(4) {
			checkLevelsAt(t, row, at, c)
		}
	})
}

func TestReadLevelsAtFarPlaces(t *testing.T) {
	for _, c := range condsAt(impl.MaxQp) {
		for _, levels := range [][]int{allAlike(64, 0), upTo(64)} {
			row := levelsSigns(levels, c)
			for _, at := range append(farNumbers(), -2, -1, len(row), len(row)+1, len(row)+2) {
				if at < 0 || at >= len(row) {
					wantNoLevelsAt(t, row, at, c)
				}
			}
		}
		wantNoLevelsAt(t, "", 0, c)
	}
}

// The whole row is looked at, not only the signs of the square.
func TestReadLevelsOfNoRow(t *testing.T) {
	for _, c := range condsAt(0) {
		levels := alone(64, 35, -7)
		row := "10" + levelsSigns(levels, c) + "01"
		wantLevelsAt(t, row, 2, c, levels, len(row)-2)
		for b := range 256 {
			if b == '0' || b == '1' {
				continue
			}
			for place := range len(row) {
				wantNoLevelsAt(t, row[:place]+byteText(b)+row[place+1:], 2, c)
			}
			wantNoLevelsAt(t, row+byteText(b), 2, c)
		}
	}
}

func TestLevelsInTheLongestRow(t *testing.T) {
	for _, c := range condsAt(11) {
		for _, levels := range [][]int{allAlike(64, 0), allAlike(64, impl.MaxLevel)} {
			signs := levelsSigns(levels, c)
			full := longRow(impl.MaxRow-len(signs)) + signs
			wantLevelsAt(t, full, impl.MaxRow-len(signs), c, levels, impl.MaxRow)
			wantNoLevelsAt(t, full, impl.MaxRow, c)
			wantNoLevelsAt(t, "1"+full, impl.MaxRow+1-len(signs), c)
			full = signs + longRow(impl.MaxRow-len(signs))
			wantLevelsAt(t, full, 0, c, levels, len(signs))
			wantNoLevelsAt(t, full+"0", 0, c)
		}
	}
}

func TestKeyChangesNothing(t *testing.T) {
	for _, c := range rightConds() {
		for _, list := range unlikeQuarters(impl.MaxDiff)[:8] {
			levels, ok := impl.LevelsOf(list, c)
			if !ok {
				t.Fatalf("LevelsOf(%v, %+v): none", list, c)
			}
			wantLevels(t, list, keyed(c), levels)
			back, _ := impl.LevelsBack(levels, c)
			wantBack(t, levels, keyed(c), back)
			row, _ := impl.LevelsRow(levels, c)
			wantLevelsRow(t, levels, keyed(c), row)
			wantLevelsAt(t, row, 0, keyed(c), levels, len(row))
		}
	}
}

func TestLevelsLeaveTheirLists(t *testing.T) {
	for _, c := range append(condsAt(0), condsAt(31)...) {
		lists := append(shortDiffLists(), allAlike(63, 7), allAlike(65, 7), alone(64, 3, impl.MaxDiff+1), alone(64, 3, impl.MaxLevel+1))
		for _, f := range levelTurns(c) {
			for _, list := range lists {
				checkLeavesList(t, f, list)
			}
		}
	}
	for _, f := range []listTurn{
		{"Joined to grey", 64, impl.MaxBack, func(x []int) []int { return impl.Joined(allAlike(64, 128), x) }, nil},
		{"Joined of nothing left", 64, 255, func(x []int) []int { return impl.Joined(x, allAlike(64, 0)) }, nil},
	} {
		for _, list := range append(someDots(), allAlike(63, 7), allAlike(65, 7), alone(64, 3, impl.MaxBack+1), alone(64, 3, -1)) {
			checkLeavesList(t, f, list)
		}
	}
}

func TestLevelsRowLeavesItsLevels(t *testing.T) {
	for _, c := range condsAt(0) {
		for _, levels := range append(shortLevelLists(), allAlike(63, 7), alone(64, 3, impl.MaxLevel+1)) {
			given := withRoom(levels)
			before := slices.Clone(allOf(given))
			row, ok := impl.LevelsRow(given, c)
			if !slices.Equal(allOf(given), before) {
				t.Fatalf("LevelsRow(%v, %+v) changed it to %v", levels, c, allOf(given))
			}
			for place := range allOf(given) {
				allOf(given)[place] = 1
			}
			if again, againOk := impl.LevelsRow(levels, c); again != row || againOk != ok {
				t.Fatalf("LevelsRow(%v, %+v): %q, then %q", levels, c, row, again)
			}
		}
	}
}

func TestReadLevelsAnswersNewMemory(t *testing.T) {
	for _, c := range condsAt(0) {
		for _, levels := range shortLevelLists() {
			row := levelsSigns(levels, c)
			first, _, _ := impl.ReadLevels(row, 0, c)
			second, _, _ := impl.ReadLevels(row, 0, c)
			for place := range allOf(first) {
				allOf(first)[place] = -9
			}
			if !slices.Equal(second, levels) {
				t.Fatalf("ReadLevels of %v: an answer that was written over changed another one to %v", levels, second)
			}
			wantLevelsAt(t, row, 0, c, levels, len(row))
		}
	}
}

// Each call is made again behind others, so that what was kept from them would be seen.
func TestLevelsKeepNothing(t *testing.T) {
	left := unlikeQuarters(impl.MaxDiff)[2]
	for range 2 {
		for _, c := range append(condsAt(6), condsAt(0)...) {
			wantLevels(t, left, c, levelsBy(left, c))
			wantBack(t, left, c, backBy(left, c))
			wantLevelsRow(t, left, c, levelsSigns(left, c))
			wantLevelsAt(t, levelsSigns(left, c), 0, c, left, len(levelsSigns(left, c)))
			wantNoLevelsRow(t, allAlike(63, 1), c)
			wantNoLevelsAt(t, "0", 0, c)
		}
		wantNoLevelsRow(t, left, impl.Cond{Large: true, Exact: true})
		wantJoined(t, upTo(64), allAlike(64, 1), sumsOf(upTo(64), allAlike(64, 1)))
		wantNotJoined(t, upTo(64), nil)
	}
}
