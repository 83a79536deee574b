package tests

import (
	"math"
	"slices"
	"testing"

	"loop.example/g00960/impl"
)

const mostWeighed = 80000

// eightSigns are the chapter's signs, written out for each pair.
func eightSigns() [8][8]int {
	var signs [8][8]int
	for i, row := range []string{
		"++++++++",
		"+-+-+-+-",
		"++--++--",
		"+--++--+",
		"++++----",
		"+-+--+-+",
		"++----++",
		"+--+-++-",
	} {
		for k, sign := range row {
			signs[i][k] = 1
			if sign == '-' {
				signs[i][k] = -1
			}
		}
	}
	return signs
}

func eightTurns() []listTurn {
	return []listTurn{
		{"Eight", 64, impl.MaxLeft, impl.Eight, eightByShares},
		{"EightBack", 64, impl.MaxBack, impl.EightBack, eightBackByShares},
	}
}

// eightByShares adds up all sixty-four for each place, rows and columns at once.
func eightByShares(x []int) []int {
	signs, w := eightSigns(), make([]int, 64)
	for place := range w {
		for from, n := range x {
			w[place] += signs[place/8][from/8] * signs[place%8][from%8] * n
		}
	}
	return w
}

func eightBackByShares(w []int) []int {
	back := eightByShares(w)
	for place, n := range back {
		back[place] = downBy(n+32, 64)
	}
	return back
}

func upTo(size int) []int {
	list := make([]int, size)
	for place := range list {
		list[place] = place
	}
	return list
}

// signSquare has n at each place, below 0 where the signs of row and column say so: what n alone turns into.
func signSquare(row, col, n int) []int {
	signs, list := eightSigns(), make([]int, 64)
	for place := range list {
		list[place] = signs[row][place/8] * signs[col][place%8] * n
	}
	return list
}

// eightLists are right lists of sixty-four: edges, flat ones, ones that add up to the most at one place, and drawn ones.
func eightLists(limit int) [][]int {
	lists := [][]int{
		allAlike(64, 0), allAlike(64, 1), allAlike(64, -1), allAlike(64, 3), allAlike(64, -3),
		allAlike(64, limit), allAlike(64, -limit), allAlike(64, limit-1), allAlike(64, 1-limit),
		upTo(64),
	}
	for place := range 64 {
		for _, n := range []int{1, -1, 2, -2, 31, -31, 32, -32, 33, -33, 64, -64, 97, -97, limit - 1, 1 - limit, limit, -limit} {
			lists = append(lists, alone(64, place, n))
		}
		lists = append(lists, sumsOf(allAlike(64, limit), alone(64, place, -2*limit)))
		lists = append(lists, signSquare(place/8, place%8, limit), signSquare(place/8, place%8, -limit))
	}
	for _, most := range []int{1, 3, 40, limit} {
		lists = append(lists, drawn(50, 64, most)...)
	}
	return lists
}

func TestSignOfEachPair(t *testing.T) {
	for i, row := range eightSigns() {
		for k, want := range row {
			if got := impl.SignOf(i, k); got != want {
				t.Errorf("SignOf(%d, %d): %d; want %d", i, k, got, want)
			}
			if impl.SignOf(i, k) != impl.SignOf(k, i) {
				t.Errorf("SignOf(%d, %d) is not the same both ways", i, k)
			}
		}
	}
}

func TestSignsOfUnlikeRows(t *testing.T) {
	for i := range 8 {
		for j := range 8 {
			alike, want := 0, 4
			for k := range 8 {
				if impl.SignOf(i, k) == impl.SignOf(j, k) {
					alike++
				}
			}
			if i == j {
				want = 8
			}
			if alike != want {
				t.Errorf("the rows %d and %d have %d signs alike; want %d", i, j, alike, want)
			}
		}
	}
}

func TestSignOfOthers(t *testing.T) {
	others := []int{-1, -2, -7, -8, -9, 8, 9, 15, 16, 64, 1 << 32, 1<<32 + 1, -1 << 32, math.MinInt, math.MinInt + 1, math.MaxInt, math.MaxInt - 7}
	for _, other := range others {
		for i := range 8 {
			if a, b := impl.SignOf(other, i), impl.SignOf(i, other); a != 0 || b != 0 {
				t.Errorf("SignOf of %d and %d: %d, and the other way %d; want 0", other, i, a, b)
			}
		}
		for _, second := range others {
			if got := impl.SignOf(other, second); got != 0 {
				t.Errorf("SignOf(%d, %d): %d; want 0", other, second, got)
			}
		}
	}
}

func TestEightsAreWhatTheChapterTells(t *testing.T) {
	for _, f := range eightTurns() {
		checkTurns(t, f, eightLists(f.limit))
	}
}

func TestEightByHand(t *testing.T) {
	counted := alone(64, 0, 2016)
	counted[1], counted[2], counted[4] = -32, -64, -128
	counted[8], counted[16], counted[32] = -256, -512, -1024
	for _, c := range []struct{ x, want []int }{
		{allAlike(64, 0), allAlike(64, 0)},
		{allAlike(64, 1), alone(64, 0, 64)},
		{allAlike(64, 1000), alone(64, 0, 64000)},
		{allAlike(64, -1000), alone(64, 0, -64000)},
		{alone(64, 0, 1), allAlike(64, 1)},
		{alone(64, 0, -7), allAlike(64, -7)},
		{alone(64, 1, 1), slices.Repeat([]int{1, -1, 1, -1, 1, -1, 1, -1}, 8)},
		{alone(64, 5, 2), slices.Repeat([]int{2, -2, 2, -2, -2, 2, -2, 2}, 8)},
		{alone(64, 8, 1), slices.Repeat(append(allAlike(8, 1), allAlike(8, -1)...), 4)},
		{alone(64, 32, 3), append(allAlike(32, 3), allAlike(32, -3)...)},
		{alone(64, 9, 1), slices.Repeat([]int{1, -1, 1, -1, 1, -1, 1, -1, -1, 1, -1, 1, -1, 1, -1, 1}, 4)},
		{upTo(64), counted},
	} {
		if got := impl.Eight(c.x); !slices.Equal(got, c.want) {
			t.Errorf("Eight(%v): %v; want %v", c.x, got, c.want)
		}
	}
}

func TestEightBackByHand(t *testing.T) {
	for _, c := range []struct{ w, want []int }{
		{allAlike(64, 0), allAlike(64, 0)},
		{alone(64, 0, 31), allAlike(64, 0)},
		{alone(64, 0, 32), allAlike(64, 1)},
		{alone(64, 0, -32), allAlike(64, 0)},
		{alone(64, 0, -33), allAlike(64, -1)},
		{alone(64, 0, 10000000), allAlike(64, 156250)},
		{alone(64, 0, -10000000), allAlike(64, -156250)},
		{alone(64, 1, 32), slices.Repeat([]int{1, 0, 1, 0, 1, 0, 1, 0}, 8)},
		{alone(64, 1, 33), slices.Repeat([]int{1, -1, 1, -1, 1, -1, 1, -1}, 8)},
		{alone(64, 4, -33), slices.Repeat([]int{-1, -1, -1, -1, 1, 1, 1, 1}, 8)},
		{alone(64, 16, 32), slices.Repeat(append(allAlike(16, 1), allAlike(16, 0)...), 2)},
		{allAlike(64, 1), alone(64, 0, 1)},
		{allAlike(64, 10000000), alone(64, 0, 10000000)},
		{allAlike(64, -10000000), alone(64, 0, -10000000)},
	} {
		if got := impl.EightBack(c.w); !slices.Equal(got, c.want) {
			t.Errorf("EightBack(%v): %v; want %v", c.w, got, c.want)
		}
	}
}

func TestEightOfOneAlone(t *testing.T) {
	for place := range 64 {
		for _, n := range []int{1, -1, 2, -2, 255, -255, 999, -999, 1000, -1000} {
			want := signSquare(place/8, place%8, n)
			if got := impl.Eight(alone(64, place, n)); !slices.Equal(got, want) {
				t.Errorf("Eight of %d at %d: %v; want %v", n, place, got, want)
			}
			if got := impl.EightBack(alone(64, place, 64*n)); !slices.Equal(got, want) {
				t.Errorf("EightBack of %d at %d: %v; want %v", 64*n, place, got, want)
			}
			if got := impl.Eight(want); !slices.Equal(got, alone(64, place, 64*n)) {
				t.Errorf("Eight of signs of %d: %v; want %d at %d", n, got, 64*n, place)
			}
		}
	}
}

func TestEightsComeBackWhole(t *testing.T) {
	for _, x := range eightLists(impl.MaxLeft) {
		if got := impl.EightBack(impl.Eight(x)); !slices.Equal(got, x) {
			t.Fatalf("EightBack of Eight of %v: %v", x, got)
		}
	}
}

func TestWeightOfEightIsSixtyFourTimes(t *testing.T) {
	for _, x := range eightLists(impl.MaxLeft) {
		own, turned := impl.Weight(x), impl.Weight(impl.Eight(x))
		if own < 0 || turned != 64*own {
			t.Fatalf("%v weighs %d, Eight of it %d", x, own, turned)
		}
	}
}

func TestEightsGoWithSums(t *testing.T) {
	lists := eightLists(impl.MaxLeft / 2)
	for i, x := range lists {
		y := lists[(7*i+13)%len(lists)]
		if got, want := impl.Eight(sumsOf(x, y)), sumsOf(impl.Eight(x), impl.Eight(y)); !slices.Equal(got, want) {
			t.Fatalf("Eight of the sums of %v and %v: %v; want %v", x, y, got, want)
		}
	}
}

// The division goes up by one at each 64 times k less 32: below it k less 1, from it on k.
func TestEightBackWhereTheDivisionGoesUp(t *testing.T) {
	most := impl.MaxBack / 64
	for _, k := range []int{-most, 1 - most, -1000, -3, -2, -1, 0, 1, 2, 3, 1000, most - 1, most} {
		edge := 64*k - 32
		for _, c := range []struct{ n, want int }{{edge - 1, k - 1}, {edge, k}, {edge + 1, k}, {edge + 63, k}, {edge + 64, k + 1}} {
			if c.n < -impl.MaxBack || c.n > impl.MaxBack {
				continue
			}
			if got := impl.EightBack(alone(64, 0, c.n)); !slices.Equal(got, allAlike(64, c.want)) {
				t.Errorf("EightBack of %d and noughts: %v; want each %d", c.n, got, c.want)
			}
		}
	}
	for n := -200; n <= 200; n++ {
		for place := range 64 {
			want := signSquare(place/8, place%8, n)
			for at, sum := range want {
				want[at] = downBy(sum+32, 64)
			}
			if got := impl.EightBack(alone(64, place, n)); !slices.Equal(got, want) {
				t.Fatalf("EightBack of %d at %d: %v; want %v", n, place, got, want)
			}
		}
	}
}

// Here the sum at a place is made of all sixty-four, and goes beyond MaxBack.
func TestEightBackWhereManyGoUp(t *testing.T) {
	for place := range 64 {
		for _, k := range []int{-9999999, -1000, -2, -1, 0, 1, 2, 1000, 9999999} {
			list := signSquare(place/8, place%8, k)
			for _, c := range []struct{ more, want int }{{-33, k - 1}, {-32, k}, {-31, k}, {0, k}, {31, k}, {32, k + 1}, {33, k + 1}} {
				if list[0]+c.more < -impl.MaxBack || list[0]+c.more > impl.MaxBack {
					continue
				}
				// The first number has the sign 1 in each sum.
				moved := sumsOf(list, alone(64, 0, c.more))
				if got := impl.EightBack(moved); len(got) != 64 || got[place] != c.want {
					t.Fatalf("EightBack(%v): %v; want %d at %d", moved, got, c.want, place)
				}
			}
		}
	}
}

func TestEightsOfOtherLists(t *testing.T) {
	for _, f := range eightTurns() {
		checkOtherLists(t, f)
	}
}

func TestEightsLeaveTheirLists(t *testing.T) {
	for _, f := range eightTurns() {
		for _, list := range append(eightLists(f.limit), allAlike(63, 7), allAlike(65, 7), alone(64, 3, f.limit+1)) {
			checkLeavesList(t, f, list)
		}
	}
}

func wantWeight(t *testing.T, list []int, want int) {
	t.Helper()
	if got := impl.Weight(list); got != want {
		t.Errorf("Weight of %d numbers %v: %d; want %d", len(list), list, got, want)
	}
}

func TestWeight(t *testing.T) {
	wantWeight(t, nil, 0)
	wantWeight(t, []int{}, 0)
	wantWeight(t, []int{0}, 0)
	wantWeight(t, []int{1, 2, 3}, 14)
	wantWeight(t, []int{-1, -2, -3}, 14)
	wantWeight(t, []int{3, -4}, 25)
	wantWeight(t, upTo(16), 1240)
	wantWeight(t, upTo(64), 85344)
	wantWeight(t, allAlike(64, 1), 64)
	for size := 1; size <= 64; size++ {
		wantWeight(t, allAlike(size, -2), 4*size)
		wantWeight(t, allAlike(size, mostWeighed), 6400000000*size)
		wantWeight(t, allAlike(size, -mostWeighed), 6400000000*size)
	}
}

func TestWeightOfOthers(t *testing.T) {
	if impl.MaxTurned*4 != mostWeighed {
		t.Error("a constant is not the chapter's")
	}
	for _, size := range []int{65, 66, 128, 1000} {
		wantWeight(t, allAlike(size, 0), -1)
		wantWeight(t, allAlike(size, 1), -1)
	}
	for _, size := range []int{1, 2, 63, 64} {
		for place := range size {
			for _, n := range []int{mostWeighed, -mostWeighed, mostWeighed - 1, 1 - mostWeighed} {
				wantWeight(t, alone(size, place, n), n*n)
			}
			for _, n := range beyond(mostWeighed) {
				wantWeight(t, alone(size, place, n), -1)
			}
		}
	}
}

func TestWeightLeavesItsList(t *testing.T) {
	for _, list := range append(eightLists(mostWeighed), nil, allAlike(65, 7), alone(64, 3, mostWeighed+1)) {
		room := append(slices.Clone(list), 77, 78)
		before := slices.Clone(room)
		weight := impl.Weight(room[:len(list)])
		if !slices.Equal(room, before) || impl.Weight(list) != weight {
			t.Fatalf("Weight of %v: %d, then %d; the list is %v", list, weight, impl.Weight(list), room)
		}
	}
}
