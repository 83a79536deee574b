package tests

import (
	"math"
	"slices"
	"testing"

	"loop.example/g00960/impl"
)

func TestFourLimits(t *testing.T) {
	if impl.MaxLeft != 1000 || impl.MaxBack != 10000000 {
		t.Error("a constant is not the chapter's")
	}
}

// A listTurn is a function that turns so many numbers, with their limit and what its chapter asks of it.
type listTurn struct {
	name  string
	size  int
	limit int
	turn  func([]int) []int
	want  func([]int) []int
}

func fourTurns() []listTurn {
	return []listTurn{
		{"Four", 16, impl.MaxLeft, impl.Four, fourByShares},
		{"FourBack", 16, impl.MaxBack, impl.FourBack, fourBackBySteps},
	}
}

// fourByShares adds up how much of each of the sixteen goes into each place, rows and columns at once.
func fourByShares(x []int) []int {
	shares := [][]int{{1, 1, 1, 1}, {2, 1, -1, -2}, {1, -1, -1, 1}, {1, -2, 2, -1}}
	w := make([]int, 16)
	for place := range w {
		for from, n := range x {
			w[place] += shares[place/4][from/4] * shares[place%4][from%4] * n
		}
	}
	return w
}

// downBy divides what is brought above 0 first, so that it leans on no shift.
func downBy(n, by int) int {
	times := 0
	if n < 0 {
		times = -n
	}
	return (n+times*by)/by - times
}

func fourBackBySteps(w []int) []int {
	back := slices.Clone(w)
	turn := func(at, stride int) {
		a, b, c, d := back[at], back[at+stride], back[at+2*stride], back[at+3*stride]
		e, f, g, h := a+c, a-c, downBy(b, 2)-d, b+downBy(d, 2)
		back[at], back[at+stride], back[at+2*stride], back[at+3*stride] = e+h, f+g, f-g, e-h
	}
	for row := range 4 {
		turn(4*row, 1)
	}
	for col := range 4 {
		turn(col, 4)
	}
	for place, n := range back {
		back[place] = downBy(n+32, 64)
	}
	return back
}

// alone has one number at a place, and noughts.
func alone(size, place, n int) []int {
	list := make([]int, size)
	list[place] = n
	return list
}

func allAlike(size, n int) []int { return slices.Repeat([]int{n}, size) }

func sumsOf(x, y []int) []int {
	sums := slices.Clone(x)
	for place, n := range y {
		sums[place] += n
	}
	return sums
}

// drawn makes lists of numbers in -limit .. limit, the same ones in each run.
func drawn(lists, size, limit int) [][]int {
	state, all := uint64(2463534242), make([][]int, lists)
	for i := range all {
		all[i] = make([]int, size)
		for place := range all[i] {
			state ^= state << 13
			state ^= state >> 7
			state ^= state << 17
			all[i][place] = int(state%uint64(2*limit+1)) - limit
		}
	}
	return all
}

// fourLists are right lists of sixteen: edges, flat ones, ones with rows or columns alike, and drawn ones.
func fourLists(limit int) [][]int {
	lists := [][]int{
		allAlike(16, 0), allAlike(16, 1), allAlike(16, -1), allAlike(16, 3), allAlike(16, -3),
		allAlike(16, limit), allAlike(16, -limit), allAlike(16, limit-1), allAlike(16, 1-limit),
		{1, 2, 3, 4, 5, 6, 7, 8, 9, 10, 11, 12, 13, 14, 15, 16},
		{7, -7, 7, -7, 7, -7, 7, -7, 0, 0, 0, 0, 0, 0, 0, 0},
		{0, 0, 0, 0, 5, 6, 7, 8, 5, 6, 7, 8, 0, 0, 0, 0},
		{1, 2, 3, 4, 0, 0, 0, 0, 1, 2, 3, 4, 0, 0, 0, 0},
		{9, 9, 5, 5, -9, -9, -5, -5, 0, 0, 1, 1, 3, 3, -3, -3},
	}
	for place := range 16 {
		for _, n := range []int{1, -1, 2, -2, 3, -3, 5, -5, 64, -64, 65, -65, 131, -131, limit - 1, 1 - limit, limit, -limit} {
			lists = append(lists, alone(16, place, n))
		}
		lists = append(lists, sumsOf(allAlike(16, limit), alone(16, place, -2*limit)))
	}
	for _, size := range []int{1, 3, 40, limit} {
		lists = append(lists, drawn(300, 16, size)...)
	}
	return lists
}

func checkTurns(t *testing.T, f listTurn, lists [][]int) {
	t.Helper()
	for _, list := range lists {
		if got, want := f.turn(list), f.want(list); !slices.Equal(got, want) {
			t.Fatalf("%s(%v): %v; want %v", f.name, list, got, want)
		}
	}
}

func TestFoursAreWhatTheChapterTells(t *testing.T) {
	for _, f := range fourTurns() {
		checkTurns(t, f, fourLists(f.limit))
	}
}

func TestFourByHand(t *testing.T) {
	for _, c := range []struct{ x, want []int }{
		{allAlike(16, 0), allAlike(16, 0)},
		{allAlike(16, 1), alone(16, 0, 16)},
		{allAlike(16, 1000), alone(16, 0, 16000)},
		{allAlike(16, -1000), alone(16, 0, -16000)},
		{alone(16, 0, 1), []int{1, 2, 1, 1, 2, 4, 2, 2, 1, 2, 1, 1, 1, 2, 1, 1}},
		{alone(16, 1, 1), []int{1, 1, -1, -2, 2, 2, -2, -4, 1, 1, -1, -2, 1, 1, -1, -2}},
		{alone(16, 2, 1), []int{1, -1, -1, 2, 2, -2, -2, 4, 1, -1, -1, 2, 1, -1, -1, 2}},
		{alone(16, 3, 1), []int{1, -2, 1, -1, 2, -4, 2, -2, 1, -2, 1, -1, 1, -2, 1, -1}},
		{alone(16, 4, 1), []int{1, 2, 1, 1, 1, 2, 1, 1, -1, -2, -1, -1, -2, -4, -2, -2}},
		{alone(16, 8, -1), []int{-1, -2, -1, -1, 1, 2, 1, 1, 1, 2, 1, 1, -2, -4, -2, -2}},
		{alone(16, 14, 10), []int{10, -10, -10, 20, -20, 20, 20, -40, 10, -10, -10, 20, -10, 10, 10, -20}},
		{[]int{1, 2, 3, 4, 5, 6, 7, 8, 9, 10, 11, 12, 13, 14, 15, 16}, []int{136, -28, 0, -4, -112, 0, 0, 0, 0, 0, 0, 0, -16, 0, 0, 0}},
	} {
		if got := impl.Four(c.x); !slices.Equal(got, c.want) {
			t.Errorf("Four(%v): %v; want %v", c.x, got, c.want)
		}
	}
}

// The numbers are such that a half that went up, or the columns ahead of the rows, would be seen.
func TestFourBackByHand(t *testing.T) {
	for _, c := range []struct{ w, want []int }{
		{allAlike(16, 0), allAlike(16, 0)},
		{alone(16, 0, 64), allAlike(16, 1)},
		{alone(16, 0, 10000000), allAlike(16, 156250)},
		{alone(16, 0, -10000000), allAlike(16, -156250)},
		{alone(16, 1, 65), []int{1, 1, 0, -1, 1, 1, 0, -1, 1, 1, 0, -1, 1, 1, 0, -1}},
		{alone(16, 1, -65), []int{-1, -1, 1, 1, -1, -1, 1, 1, -1, -1, 1, 1, -1, -1, 1, 1}},
		{alone(16, 2, 64), []int{1, -1, -1, 1, 1, -1, -1, 1, 1, -1, -1, 1, 1, -1, -1, 1}},
		{alone(16, 3, 65), []int{1, -1, 1, 0, 1, -1, 1, 0, 1, -1, 1, 0, 1, -1, 1, 0}},
		{alone(16, 3, -65), []int{-1, 1, -1, 1, -1, 1, -1, 1, -1, 1, -1, 1, -1, 1, -1, 1}},
		{alone(16, 4, 65), []int{1, 1, 1, 1, 1, 1, 1, 1, 0, 0, 0, 0, -1, -1, -1, -1}},
		{alone(16, 4, -65), []int{-1, -1, -1, -1, -1, -1, -1, -1, 1, 1, 1, 1, 1, 1, 1, 1}},
		{alone(16, 8, 64), []int{1, 1, 1, 1, -1, -1, -1, -1, -1, -1, -1, -1, 1, 1, 1, 1}},
		{alone(16, 12, 65), []int{1, 1, 1, 1, -1, -1, -1, -1, 1, 1, 1, 1, 0, 0, 0, 0}},
		{alone(16, 12, -65), []int{-1, -1, -1, -1, 1, 1, 1, 1, -1, -1, -1, -1, 1, 1, 1, 1}},
		{alone(16, 5, 130), []int{2, 1, -1, -2, 1, 1, -1, -1, -1, 0, 1, 1, -2, -1, 1, 2}},
	} {
		if got := impl.FourBack(c.w); !slices.Equal(got, c.want) {
			t.Errorf("FourBack(%v): %v; want %v", c.w, got, c.want)
		}
	}
}

func TestFoursGoWithSums(t *testing.T) {
	lists := fourLists(impl.MaxLeft / 2)
	for i, x := range lists {
		y := lists[(7*i+13)%len(lists)]
		if got, want := impl.Four(sumsOf(x, y)), sumsOf(impl.Four(x), impl.Four(y)); !slices.Equal(got, want) {
			t.Fatalf("Four of the sums of %v and %v: %v; want %v", x, y, got, want)
		}
	}
}

func TestFourBeginsWithTheSum(t *testing.T) {
	for _, x := range fourLists(impl.MaxLeft) {
		sum := 0
		for _, n := range x {
			sum += n
		}
		if got := impl.Four(x); len(got) != 16 || got[0] != sum {
			t.Fatalf("Four(%v): %v; it begins with %d", x, got, sum)
		}
	}
}

func TestFourBackOfSixtyFours(t *testing.T) {
	most := impl.MaxBack / 64
	for _, k := range []int{0, 1, 2, 3, 63, 64, 65, 255, 1000, most - 1, most} {
		for _, k := range []int{k, -k} {
			if got := impl.FourBack(alone(16, 0, 64*k)); !slices.Equal(got, allAlike(16, k)) {
				t.Errorf("FourBack of 64 times %d and noughts: %v", k, got)
			}
		}
	}
}

// What is four times sixty-four times something stays whole through both halves, so that it goes with sums.
func TestFourBackGoesWithSumsOfWholes(t *testing.T) {
	lists := drawn(400, 16, impl.MaxBack/2)
	for i, whole := range drawn(400, 16, impl.MaxBack/2/256) {
		for place := range whole {
			whole[place] *= 256
		}
		if got, want := impl.FourBack(sumsOf(whole, lists[i])), sumsOf(impl.FourBack(whole), impl.FourBack(lists[i])); !slices.Equal(got, want) {
			t.Fatalf("FourBack of the sums of %v and %v: %v; want %v", whole, lists[i], got, want)
		}
	}
}

// The division goes up by one at each 64 times k less 32: below it k less 1, from it on k.
func TestFourBackWhereTheDivisionGoesUp(t *testing.T) {
	most := impl.MaxBack / 64
	for _, k := range []int{-most, 1 - most, -1000, -3, -2, -1, 0, 1, 2, 3, 1000, most - 1, most} {
		edge := 64*k - 32
		for _, c := range []struct{ n, want int }{{edge - 1, k - 1}, {edge, k}, {edge + 1, k}, {edge + 63, k}, {edge + 64, k + 1}} {
			if c.n < -impl.MaxBack || c.n > impl.MaxBack {
				continue
			}
			if got := impl.FourBack(alone(16, 0, c.n)); !slices.Equal(got, allAlike(16, c.want)) {
				t.Errorf("FourBack of %d and noughts: %v; want each %d", c.n, got, c.want)
			}
		}
	}
	for n := -700; n <= 700; n++ {
		for place := range 16 {
			if got, want := impl.FourBack(alone(16, place, n)), fourBackBySteps(alone(16, place, n)); !slices.Equal(got, want) {
				t.Fatalf("FourBack of %d at %d: %v; want %v", n, place, got, want)
			}
		}
	}
}

func wantNoTurn(t *testing.T, f listTurn, list []int) {
	t.Helper()
	if got := f.turn(list); len(got) != 0 {
		t.Errorf("%s of %d numbers %v: %v; want none", f.name, len(list), list, got)
	}
}

// checkOtherLists looks at lists that are too short or too long, and at one number outside at each place.
func checkOtherLists(t *testing.T, f listTurn) {
	t.Helper()
	wantNoTurn(t, f, nil)
	for _, size := range []int{0, 1, 4, 8, 15, 16, 17, 32, 63, 64, 65, 128, 256} {
		if size != f.size {
			wantNoTurn(t, f, allAlike(size, 0))
			wantNoTurn(t, f, allAlike(size, 1))
		}
	}
	for place := range f.size {
		for _, n := range append(beyond(f.limit), math.MinInt+32, math.MaxInt-31) {
			wantNoTurn(t, f, alone(f.size, place, n))
			wantNoTurn(t, f, sumsOf(allAlike(f.size, 5), alone(f.size, place, n-5)))
		}
		for _, n := range []int{f.limit, -f.limit} {
			if got := f.turn(alone(f.size, place, n)); len(got) != f.size {
				t.Errorf("%s of %d at %d: %v", f.name, n, place, got)
			}
		}
	}
}

func TestFoursOfOtherLists(t *testing.T) {
	for _, f := range fourTurns() {
		checkOtherLists(t, f)
	}
}

// checkLeavesList looks at the list, the room behind it, and what is answered once both have been written over.
func checkLeavesList(t *testing.T, f listTurn, list []int) {
	t.Helper()
	room := append(slices.Clone(list), 77, 78, 79, 80)
	before := slices.Clone(room)
	got := f.turn(room[:len(list)])
	kept := slices.Clone(got)
	if !slices.Equal(room, before) {
		t.Fatalf("%s changed %v to %v", f.name, before, room)
	}
	for place := range room {
		room[place] = 1234
	}
	if again := f.turn(list); !slices.Equal(got, kept) || !slices.Equal(again, kept) {
		t.Fatalf("%s of %v: %v, then %v", f.name, list, kept, again)
	}
	for place := range got {
		got[place] = -1
	}
	if again := f.turn(list); !slices.Equal(again, kept) {
		t.Fatalf("%s of %v: %v, then %v", f.name, list, kept, again)
	}
}

func TestFoursLeaveTheirLists(t *testing.T) {
	for _, f := range fourTurns() {
		for _, list := range append(fourLists(f.limit), allAlike(15, 7), allAlike(17, 7), alone(16, 3, f.limit+1)) {
			checkLeavesList(t, f, list)
		}
	}
}
