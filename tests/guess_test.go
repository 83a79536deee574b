package tests

import (
	"math"
	"slices"
	"testing"

	"loop.example/g00960/impl"
)

func sameEdges(a, b impl.Edges) bool {
	return slices.Equal(a.Above, b.Above) && slices.Equal(a.Left, b.Left) && a.Corner == b.Corner
}

func edgesOf(above, left []int, corner int) impl.Edges {
	return impl.Edges{Above: above, Left: left, Corner: corner}
}

func row(list ...int) []int { return list }

// someLines are lists of eight dots: flat ones, the ends, ones that go up and down, ones where a half comes up, drawn ones.
func someLines() [][]int {
	lines := [][]int{
		allAlike(8, 0), allAlike(8, 1), allAlike(8, 127), allAlike(8, 128), allAlike(8, 254), allAlike(8, 255),
		{0, 1, 2, 3, 4, 5, 6, 7}, {255, 254, 253, 252, 251, 250, 249, 248}, {0, 255, 0, 255, 0, 255, 0, 255}, {10, 20, 40, 80, 120, 160, 200, 240},
		{0, 0, 0, 0, 0, 0, 0, 255}, {255, 0, 0, 0, 0, 0, 0, 0},
	}
	for _, list := range drawn(4, 8, 127) {
		lines = append(lines, sumsOf(list, allAlike(8, 127)))
	}
	return lines
}

// rightEdges have both lists, one of the two, or none, and each has a Corner that is there and one that is not.
func rightEdges() []impl.Edges {
	lines := append([][]int{nil, {}}, someLines()...)
	edges := []impl.Edges{}
	for i, above := range lines {
		for k, left := range lines {
			corners := []int{-1, 0, 1, 127, 128, 254, 255}
			edges = append(edges, edgesOf(above, left, -1), edgesOf(above, left, corners[(i+k)%len(corners)]))
			if i < 6 && k < 6 || i == k {
				for _, corner := range corners {
					edges = append(edges, edgesOf(above, left, corner))
				}
			}
		}
	}
	return edges
}

// wrongEdges have one fault each; all else of them is right.
func wrongEdges() []impl.Edges {
	edges := []impl.Edges{}
	for _, right := range [][]int{nil, allAlike(8, 128), {0, 255, 1, 2, 3, 4, 5, 6}} {
		for _, size := range []int{1, 2, 4, 7, 9, 15, 16, 64} {
			edges = append(edges, edgesOf(allAlike(size, 128), right, 5), edgesOf(right, allAlike(size, 128), 5), edgesOf(allAlike(size, 128), allAlike(size, 128), -1))
		}
		for place := range 8 {
			for _, n := range append(beyond(255), -1, -2, -255, -128, 256) {
				wrong := sumsOf(allAlike(8, 128), alone(8, place, n-128))
				edges = append(edges, edgesOf(wrong, right, 5), edgesOf(right, wrong, -1))
			}
		}
		for _, corner := range append(beyond(255), -2, -3, -128, -255, 256, 257) {
			edges = append(edges, edgesOf(right, right, corner), edgesOf(right, nil, corner), edgesOf(nil, right, corner))
		}
	}
	return edges
}

// edgesBy picks each dot; the square is within the picture.
func edgesBy(p impl.Pic, x, y int) impl.Edges {
	e := impl.Edges{Corner: -1}
	for i := range 8 {
		if y != 0 {
			e.Above = append(e.Above, int(p.Dots[(y-1)*p.Wide+x+i]))
		}
		if x != 0 {
			e.Left = append(e.Left, int(p.Dots[(y+i)*p.Wide+x-1]))
		}
	}
	if x != 0 && y != 0 {
		e.Corner = int(p.Dots[(y-1)*p.Wide+x-1])
	}
	return e
}

func seenOr128(list []int, place int) int {
	if len(list) == 0 {
		return 128
	}
	return list[place]
}

// midBy takes the count away as often as it goes in.
func midBy(e impl.Edges) int {
	both := slices.Concat(e.Above, e.Left)
	if len(both) == 0 {
		return 128
	}
	rest, mid := 2*sumOf(both)+len(both), 0
	for rest >= 2*len(both) {
		rest, mid = rest-2*len(both), mid+1
	}
	return mid
}

// guessBy is for a right mode and right edges.
func guessBy(mode int, e impl.Edges) []int {
	dots, mid := []int{}, midBy(e)
	for place := range 64 {
		above, left, corner := seenOr128(e.Above, place%8), seenOr128(e.Left, place/8), e.Corner
		if corner == -1 {
			corner = 128
		}
		dots = append(dots, []int{mid, above, left, min(255, max(0, left+above-corner))}[mode])
	}
	return dots
}

func gapBy(a, b []int) int {
	gap := 0
	for place := range a {
		gap += max(a[place], b[place]) - min(a[place], b[place])
	}
	return gap
}

// costsBy are what the four modes cost, with the lengths of the rows 1, 010, 011 and 00100.
func costsBy(want []int, e impl.Edges) []int {
	costs := []int{}
	for mode, signs := range []string{"1", "010", "011", "00100"} {
		costs = append(costs, gapBy(want, guessBy(mode, e))+len(signs))
	}
	return costs
}

func wantEdges(t *testing.T, p impl.Pic, x, y int, want impl.Edges) {
	t.Helper()
	if got, ok := impl.EdgesOf(p, x, y); !ok || !sameEdges(got, want) {
		t.Fatalf("EdgesOf(%s, %d, %d): %v, %v; want %v", shownPic(p), x, y, got, ok, want)
	}
}

func wantNoEdges(t *testing.T, p impl.Pic, x, y int) {
	t.Helper()
	if got, ok := impl.EdgesOf(p, x, y); ok || !sameEdges(got, impl.Edges{}) {
		t.Fatalf("EdgesOf(%s, %d, %d): %v, %v; want a refusal", shownPic(p), x, y, got, ok)
	}
}

func wantGuess(t *testing.T, mode int, e impl.Edges, want []int) {
	t.Helper()
	if got := impl.GuessOf(mode, e); !slices.Equal(got, want) {
		t.Fatalf("GuessOf(%d, %v): %v; want %v", mode, e, got, want)
	}
}

func wantGap(t *testing.T, a, b []int, want int) {
	t.Helper()
	if one, other := impl.GapOf(a, b), impl.GapOf(b, a); one != want || other != want {
		t.Fatalf("GapOf of %v and %v: %d, the other way %d; want %d", a, b, one, other, want)
	}
}

func wantBest(t *testing.T, want []int, e impl.Edges, mode, cost int) {
	t.Helper()
	if gotMode, gotCost := impl.BestGuess(want, e); gotMode != mode || gotCost != cost {
		t.Fatalf("BestGuess(%v, %v): %d, %d; want %d, %d", want, e, gotMode, gotCost, mode, cost)
	}
}

func TestGuessModes(t *testing.T) {
	if impl.GuMid != 0 || impl.GuDown != 1 || impl.GuAcross != 2 || impl.GuSlope != 3 {
		t.Error("a constant is not the chapter's")
	}
}

func TestEdgesOfByHand(t *testing.T) {
	p := everyDot()
	wantEdges(t, p, 0, 0, edgesOf(nil, nil, -1))
	wantEdges(t, p, 8, 0, edgesOf(nil, row(7, 23, 39, 55, 71, 87, 103, 119), -1))
	wantEdges(t, p, 0, 8, edgesOf(row(112, 113, 114, 115, 116, 117, 118, 119), nil, -1))
	wantEdges(t, p, 8, 8, edgesOf(row(120, 121, 122, 123, 124, 125, 126, 127), row(135, 151, 167, 183, 199, 215, 231, 247), 119))
	// In rows of 24 dots the first square within is not the last one.
	wide := picOf(24, 24, func(x, y int) int { return 10*y + x })
	wantEdges(t, wide, 8, 8, edgesOf(row(78, 79, 80, 81, 82, 83, 84, 85), row(87, 97, 107, 117, 127, 137, 147, 157), 77))
	wantEdges(t, wide, 16, 8, edgesOf(row(86, 87, 88, 89, 90, 91, 92, 93), row(95, 105, 115, 125, 135, 145, 155, 165), 85))
	wantEdges(t, wide, 8, 16, edgesOf(row(158, 159, 160, 161, 162, 163, 164, 165), row(167, 177, 187, 197, 207, 217, 227, 237), 157))
	wantEdges(t, wide, 16, 16, edgesOf(row(166, 167, 168, 169, 170, 171, 172, 173), row(175, 185, 195, 205, 215, 225, 235, 245), 165))
}

func TestEdgesOfEachPlace(t *testing.T) {
	for _, p := range append(rightPics(), drawnPic(8, 15), drawnPic(15, 8), drawnPic(24, 17), drawnPic(23, 31), drawnPic(7, 40)) {
		if len(p.Dots) > 1000 {
			continue
		}
		for x := -17; x <= p.Wide+17; x++ {
			for y := -17; y <= p.High+17; y++ {
				if x >= 0 && y >= 0 && x%8 == 0 && y%8 == 0 && x+7 < p.Wide && y+7 < p.High {
					wantEdges(t, p, x, y, edgesBy(p, x, y))
				} else {
					wantNoEdges(t, p, x, y)
				}
			}
		}
	}
}

func TestEdgesOfLargePictures(t *testing.T) {
	for _, size := range [][2]int{{256, 256}, {255, 254}, {256, 8}, {8, 256}} {
		p := drawnPic(size[0], size[1])
		for x := 0; x <= 264; x += 8 {
			for y := 0; y <= 264; y += 8 {
				if x+8 <= size[0] && y+8 <= size[1] {
					wantEdges(t, p, x, y, edgesBy(p, x, y))
				} else {
					wantNoEdges(t, p, x, y)
				}
			}
		}
	}
}

func TestEdgesFarOutside(t *testing.T) {
	p := drawnPic(16, 24)
	far := append(farNumbers(), -16, -8, 24, 32, 256, 1<<32+8, -1<<32+8, 1<<62, -1<<62, math.MaxInt-7, math.MaxInt-15, math.MinInt+8, math.MinInt+16)
	for _, n := range far {
		for _, other := range append(slices.Clone(far), 0, 1, 8) {
			wantNoEdges(t, p, n, other)
			wantNoEdges(t, p, other, n)
		}
	}
}

func TestEdgesOfWrongPictures(t *testing.T) {
	places := []int{0, 8, 16, -8, 1, math.MinInt, math.MaxInt, math.MaxInt - 7}
	for _, p := range append(wrongPics(), blankPic(16, 16, 255), blankPic(16, 16, 257), blankPic(8, 8, 63), blankPic(8, 8, 65), blankPic(264, 8, 264*8), blankPic(8, 264, 264*8)) {
		for _, x := range places {
			for _, y := range places {
				wantNoEdges(t, p, x, y)
			}
		}
	}
}

func TestEdgesOk(t *testing.T) {
	for _, e := range rightEdges() {
		if !impl.EdgesOk(e) {
			t.Errorf("not right: %v", e)
		}
	}
	for _, e := range wrongEdges() {
		if impl.EdgesOk(e) {
			t.Errorf("right: %v", e)
		}
	}
}

func TestEdgesOkOfSizesAndCorners(t *testing.T) {
	for above := range 20 {
		for left := range 20 {
			want := (above == 0 || above == 8) && (left == 0 || left == 8)
			for _, dot := range []int{0, 128, 255} {
				if got := impl.EdgesOk(edgesOf(allAlike(above, dot), allAlike(left, dot), dot)); got != want {
					t.Errorf("EdgesOk of %d and %d times %d: %v", above, left, dot, got)
				}
			}
		}
	}
	for corner := -300; corner <= 600; corner++ {
		for _, list := range [][]int{nil, allAlike(8, 0)} {
			if got, want := impl.EdgesOk(edgesOf(list, list, corner)), corner >= -1 && corner <= 255; got != want {
				t.Errorf("EdgesOk with the corner %d: %v", corner, got)
			}
		}
	}
}

func TestEdgesThatCameAreRight(t *testing.T) {
	for _, p := range rightPics() {
		for x := 0; x+8 <= p.Wide; x += 8 {
			for y := 0; y+8 <= p.High; y += 8 {
				if e, ok := impl.EdgesOf(p, x, y); !ok || !impl.EdgesOk(e) {
					t.Fatalf("EdgesOf(%s, %d, %d): %v, %v: not right", shownPic(p), x, y, e, ok)
				}
			}
		}
	}
}

func TestGuessOfByHand(t *testing.T) {
	above, left := row(10, 20, 30, 40, 50, 60, 70, 80), row(5, 15, 25, 35, 45, 55, 65, 250)
	down, across := slices.Repeat(above, 8), []int{}
	for _, dot := range left {
		across = append(across, allAlike(8, dot)...)
	}
	slope := slices.Concat(
		row(0, 0, 5, 15, 25, 35, 45, 55), row(0, 5, 15, 25, 35, 45, 55, 65), row(5, 15, 25, 35, 45, 55, 65, 75), row(15, 25, 35, 45, 55, 65, 75, 85),
		row(25, 35, 45, 55, 65, 75, 85, 95), row(35, 45, 55, 65, 75, 85, 95, 105), row(45, 55, 65, 75, 85, 95, 105, 115), row(230, 240, 250, 255, 255, 255, 255, 255),
	)
	both := edgesOf(above, left, 30)
	// 360 and 495 make 855, and 8 more, sixteen times 53 and a rest.
	for mode, want := range [][]int{allAlike(64, 53), down, across, slope} {
		wantGuess(t, mode, both, want)
	}
	// A corner that is there stays out of the middle; one that is not changes the slope alone.
	bare := edgesOf(above, left, -1)
	for mode, want := range [][]int{allAlike(64, 53), down, across, guessBy(3, edgesOf(above, left, 128))} {
		wantGuess(t, mode, bare, want)
	}
}

func TestGuessOfWithoutLists(t *testing.T) {
	line := row(0, 1, 2, 3, 252, 253, 254, 255)
	lineDown, lineAcross := slices.Repeat(line, 8), []int{}
	for _, dot := range line {
		lineAcross = append(lineAcross, allAlike(8, dot)...)
	}
	flat := allAlike(64, 128)
	for _, c := range []struct {
		e    impl.Edges
		want [][]int
	}{
		{edgesOf(nil, nil, -1), [][]int{flat, flat, flat, flat}},
		{edgesOf(nil, nil, 128), [][]int{flat, flat, flat, flat}},
		{edgesOf(nil, nil, 0), [][]int{flat, flat, flat, allAlike(64, 255)}},
		{edgesOf(nil, nil, 1), [][]int{flat, flat, flat, allAlike(64, 255)}},
		{edgesOf(nil, nil, 2), [][]int{flat, flat, flat, allAlike(64, 254)}},
		{edgesOf(nil, nil, 255), [][]int{flat, flat, flat, allAlike(64, 1)}},
		// 1020 and 4 are 128 times 8: the sum is half a dot short.
		{edgesOf(line, nil, -1), [][]int{flat, lineDown, flat, lineDown}},
		{edgesOf(nil, line, -1), [][]int{flat, flat, lineAcross, lineAcross}},
		{edgesOf(line, nil, 128), [][]int{flat, lineDown, flat, lineDown}},
		{edgesOf(line, nil, 0), [][]int{flat, lineDown, flat, slices.Repeat(row(128, 129, 130, 131, 255, 255, 255, 255), 8)}},
		{edgesOf(line, nil, 255), [][]int{flat, lineDown, flat, slices.Repeat(row(0, 0, 0, 0, 125, 126, 127, 128), 8)}},
	} {
		for mode, want := range c.want {
			wantGuess(t, mode, c.e, want)
		}
		for mode, want := range c.want {
			empty := edgesOf(append([]int{}, c.e.Above...), append([]int{}, c.e.Left...), c.e.Corner)
			wantGuess(t, mode, empty, want)
		}
	}
}

func TestMiddleAtHalves(t *testing.T) {
	for _, base := range []int{0, 1, 7, 127, 128, 253} {
		for more := range 9 {
			// So many of eight are one greater: from four on, the middle is, too.
			line := slices.Concat(allAlike(8-more, base), allAlike(more, base+1))
			want := base
			if more >= 4 {
				want++
			}
			wantGuess(t, impl.GuMid, edgesOf(line, nil, -1), allAlike(64, want))
			wantGuess(t, impl.GuMid, edgesOf(nil, line, 77), allAlike(64, want))
		}
		for more := range 17 {
			both := slices.Concat(allAlike(16-more, base), allAlike(more, base+1))
			want := base
			if more >= 8 {
				want++
			}
			wantGuess(t, impl.GuMid, edgesOf(both[:8], both[8:], 0), allAlike(64, want))
			wantGuess(t, impl.GuMid, edgesOf(both[8:], both[:8], -1), allAlike(64, want))
		}
	}
}

func TestSlopeAtItsEnds(t *testing.T) {
	for _, c := range []struct{ above, left, corner, want int }{
		{0, 0, 0, 0}, {0, 0, 1, 0}, {0, 0, 255, 0}, {1, 0, 1, 0}, {0, 1, 2, 0}, {1, 1, 1, 1}, {100, 100, 200, 0}, {100, 100, 201, 0}, {100, 100, 199, 1},
		{255, 255, 255, 255}, {255, 255, 0, 255}, {255, 0, 0, 255}, {255, 1, 0, 255}, {255, 1, 1, 255}, {255, 1, 2, 254}, {128, 128, 0, 255}, {128, 127, 0, 255}, {127, 127, 0, 254},
		{64, 64, -1, 0}, {64, 65, -1, 1}, {63, 64, -1, 0}, {255, 128, -1, 255}, {128, 254, -1, 254}, {255, 129, -1, 255}, {0, 0, -1, 0}, {255, 255, -1, 255},
	} {
		wantGuess(t, impl.GuSlope, edgesOf(allAlike(8, c.above), allAlike(8, c.left), c.corner), allAlike(64, c.want))
		wantGuess(t, impl.GuSlope, edgesOf(allAlike(8, c.left), allAlike(8, c.above), c.corner), allAlike(64, c.want))
	}
}

func TestSlopeOfEachTwoDots(t *testing.T) {
	for _, corner := range []int{-1, 0, 1, 100, 254, 255} {
		for from := 0; from < 256; from += 8 {
			above := span(from, 8)
			for other := 0; other < 256; other += 8 {
				e := edgesOf(above, span(other, 8), corner)
				wantGuess(t, impl.GuSlope, e, guessBy(impl.GuSlope, e))
			}
		}
	}
}

func TestGuessesOfRightEdges(t *testing.T) {
	for _, e := range rightEdges() {
		for mode := range 4 {
			got := impl.GuessOf(mode, e)
			if len(got) != 64 || slices.Min(got) < 0 || slices.Max(got) > 255 {
				t.Fatalf("GuessOf(%d, %v): %v: no dots", mode, e, got)
			}
			wantGuess(t, mode, e, guessBy(mode, e))
		}
	}
}

func TestGuessesOfEdgesThatAreOneDot(t *testing.T) {
	for dot := range 256 {
		line := allAlike(8, dot)
		for mode := range 4 {
			wantGuess(t, mode, edgesOf(line, line, dot), allAlike(64, dot))
		}
		wantGuess(t, impl.GuMid, edgesOf(line, nil, -1), allAlike(64, dot))
		wantGuess(t, impl.GuMid, edgesOf(nil, line, -1), allAlike(64, dot))
		wantGuess(t, impl.GuDown, edgesOf(line, nil, -1), allAlike(64, dot))
		wantGuess(t, impl.GuAcross, edgesOf(nil, line, -1), allAlike(64, dot))
		p := flatPic(16, 16, dot)
		e, ok := impl.EdgesOf(p, 8, 8)
		if !ok || !sameEdges(e, edgesOf(line, line, dot)) {
			t.Fatalf("EdgesOf a picture of %d alone: %v, %v", dot, e, ok)
		}
		for mode := range 4 {
			wantGuess(t, mode, e, impl.BlockOf(p, 8, 8))
		}
	}
}

func TestGuessesOfGrey(t *testing.T) {
	for x := 0; x < 24; x += 8 {
		for y := 0; y < 24; y += 8 {
			e, _ := impl.EdgesOf(impl.Grey(24, 24), x, y)
			for mode := range 4 {
				wantGuess(t, mode, e, allAlike(64, 128))
			}
			wantBest(t, allAlike(64, 128), e, 0, 1)
		}
	}
}

func TestGuessesOfOtherModes(t *testing.T) {
	modes := append(farNumbers(), -4, -3, -2, -1, 4, 5, 6, 7, 8, 1<<32+1, 1<<32+3, 1<<62)
	edges := append([]impl.Edges{{}, edgesOf(nil, nil, -1), edgesOf(allAlike(8, 9), allAlike(8, 7), 5)}, wrongEdges()[:9]...)
	for _, mode := range modes {
		for _, e := range edges {
			wantGuess(t, mode, e, nil)
		}
	}
}

func TestGuessesOfWrongEdges(t *testing.T) {
	for _, e := range wrongEdges() {
		for mode := -1; mode <= 4; mode++ {
			wantGuess(t, mode, e, nil)
		}
		for _, want := range [][]int{allAlike(64, 0), allAlike(64, 128), nil, allAlike(64, 256)} {
			wantBest(t, want, e, 0, -1)
		}
	}
}

func TestGapOfByHand(t *testing.T) {
	wantGap(t, allAlike(64, 0), allAlike(64, 0), 0)
	wantGap(t, allAlike(64, 0), allAlike(64, 1), 64)
	wantGap(t, allAlike(64, -1), allAlike(64, 1), 128)
	wantGap(t, upTo(64), allAlike(64, 0), 2016)
	wantGap(t, upTo(64), allAlike(64, 32), 1024)
	wantGap(t, allAlike(64, 255), allAlike(64, 0), 16320)
	wantGap(t, allAlike(64, 1000), allAlike(64, -1000), 128000)
	wantGap(t, allAlike(64, 1000), allAlike(64, 1000), 0)
	wantGap(t, allAlike(64, -1000), allAlike(64, -1000), 0)
	// What one place has more, another one has less: a gap has no sign.
	wantGap(t, sumsOf(alone(64, 0, 5), alone(64, 63, -5)), allAlike(64, 0), 10)
	wantGap(t, sumsOf(alone(64, 0, 5), alone(64, 63, -5)), sumsOf(alone(64, 0, -5), alone(64, 63, 5)), 20)
	for place := range 64 {
		wantGap(t, alone(64, place, 1000), alone(64, place, -1000), 2000)
		wantGap(t, alone(64, place, 7), alone(64, (place+1)%64, 7), 14)
		wantGap(t, alone(64, place, -3), allAlike(64, 1), 67)
	}
}

func TestGapOfDrawnLists(t *testing.T) {
	for _, limit := range []int{1, 255, impl.MaxLeft} {
		lists := append(drawn(12, 64, limit), allAlike(64, limit), allAlike(64, -limit), alone(64, 17, limit))
		for _, a := range lists {
			for _, b := range lists {
				wantGap(t, a, b, gapBy(a, b))
				if (impl.GapOf(a, b) == 0) != slices.Equal(a, b) {
					t.Fatalf("GapOf of %v and %v: %d", a, b, impl.GapOf(a, b))
				}
			}
			wantGap(t, a, slices.Clone(a), 0)
			wantGap(t, a, a, 0)
		}
	}
}

func TestGapOfOtherLists(t *testing.T) {
	right := [][]int{allAlike(64, 0), upTo(64), allAlike(64, impl.MaxLeft)}
	for _, size := range []int{0, 1, 8, 16, 32, 62, 63, 65, 66, 128, 4096} {
		for _, n := range []int{0, 1, -1, impl.MaxLeft} {
			wrong := allAlike(size, n)
			for _, list := range append(right, wrong, nil) {
				wantGap(t, wrong, list, -1)
			}
		}
	}
	wantGap(t, nil, nil, -1)
	for place := range 64 {
		for _, n := range append(beyond(impl.MaxLeft), math.MinInt+1000, math.MaxInt-1000) {
			wrong := alone(64, place, n)
			for _, list := range append(right, wrong) {
				wantGap(t, wrong, list, -1)
			}
		}
		for _, n := range []int{impl.MaxLeft, -impl.MaxLeft} {
			wantGap(t, alone(64, place, n), allAlike(64, 0), impl.MaxLeft)
		}
	}
}

// checkBest holds the best guess to what each mode costs, by the program and by the chapter.
func checkBest(t *testing.T, want []int, e impl.Edges) []int {
	t.Helper()
	costs := costsBy(want, e)
	least := slices.Min(costs)
	wantBest(t, want, e, slices.Index(costs, least), least)
	best, cost := impl.BestGuess(want, e)
	if told := impl.GapOf(want, impl.GuessOf(best, e)) + impl.UeSize(best); told != cost {
		t.Fatalf("BestGuess(%v, %v): %d; its mode %d costs %d", want, e, cost, best, told)
	}
	for mode := range 4 {
		if other := impl.GapOf(want, impl.GuessOf(mode, e)) + impl.UeSize(mode); other < cost || mode < best && other == cost {
			t.Fatalf("BestGuess(%v, %v): %d, %d; the mode %d costs %d", want, e, best, cost, mode, other)
		}
	}
	return costs
}

func TestBestGuessOfGuesses(t *testing.T) {
	above, left := row(10, 20, 30, 40, 50, 60, 70, 80), row(5, 15, 25, 35, 45, 55, 65, 250)
	e := edgesOf(above, left, 30)
	for mode, cost := range []int{1, 3, 3, 5} {
		wantBest(t, impl.GuessOf(mode, e), e, mode, cost)
	}
	for _, e := range rightEdges() {
		for mode := range 4 {
			checkBest(t, guessBy(mode, e), e)
		}
	}
}

// crossTie has so many dots of 51 along its first row and its first column, where the slope has seven each, as the middle has none.
func crossTie(across, down int) ([]int, impl.Edges) {
	line, want := row(51, 50, 50, 50, 50, 50, 50, 50), allAlike(64, 50)
	want[0] = 52
	for i := range across {
		want[i+1] = 51
	}
	for i := range down {
		want[(i+1)*8] = 51
	}
	return want, edgesOf(line, line, 50)
}

func TestBestGuessWhereSeveralCostTheSame(t *testing.T) {
	// All four guesses are alike: what is sent for the mode alone tells them apart.
	wantBest(t, allAlike(64, 128), edgesOf(nil, nil, -1), 0, 1)
	wantBest(t, allAlike(64, 7), edgesOf(allAlike(8, 7), allAlike(8, 7), 7), 0, 1)
	// The middle is 10; so many dots of the last column, where a dot of 11 stands above, are 11.
	e := edgesOf(row(10, 10, 10, 10, 10, 10, 10, 11), nil, -1)
	for elevens, best := range [][2]int{{0, 1}, {0, 2}, {0, 3}, {0, 4}, {0, 5}, {0, 6}, {1, 5}, {1, 4}, {1, 3}} {
		want := allAlike(64, 10)
		for i := range elevens {
			want[i*8+7] = 11
		}
		wantBest(t, want, e, best[0], best[1])
	}
	// Where the dots above and at the left are not alike, as many are of the one kind as of the other.
	line := row(0, 100, 0, 100, 0, 100, 0, 100)
	tie := []int{}
	for place := range 64 {
		above, left := line[place%8], line[place/8]
		tie = append(tie, above)
		if place/8%4 < 2 {
			tie[place] = left
		}
	}
	e = edgesOf(line, line, 0)
	if costs := checkBest(t, tie, e); costs[1] != costs[2] || costs[1] != slices.Min(costs) {
		t.Fatalf("down and across should cost the same: %v", costs)
	}
	wantBest(t, tie, e, 1, 1603)
	tie[1] = 100 - tie[1]
	checkBest(t, tie, e)
	// With four and four the gaps are 10, 8, 8 and 6, and each mode costs 11.
	for _, c := range []struct{ across, down, mode, cost int }{{4, 4, 0, 11}, {5, 4, 2, 10}, {4, 5, 1, 10}, {5, 5, 3, 9}, {0, 0, 0, 3}, {7, 7, 3, 5}} {
		want, e := crossTie(c.across, c.down)
		wantBest(t, want, e, c.mode, c.cost)
	}
}

// The dots between two guesses are gone through, so that each two modes once cost the same, and once what is sent for the mode turns the choice.
func TestBestGuessBetweenTwoGuesses(t *testing.T) {
	same, turnedBySize := map[[2]int]int{}, 0
	look := func(want []int, e impl.Edges) {
		costs := checkBest(t, want, e)
		best, least := slices.Index(costs, slices.Min(costs)), slices.Min(costs)
		for mode := best + 1; mode < 4; mode++ {
			if costs[mode] == least {
				same[[2]int{best, mode}]++
			}
		}
		gaps := []int{}
		for mode := range 4 {
			gaps = append(gaps, gapBy(want, guessBy(mode, e)))
		}
		if slices.Index(gaps, slices.Min(gaps)) != best {
			turnedBySize++
		}
	}
	for _, e := range rightEdges()[:200] {
		for a := range 4 {
			for b := range a {
				one, other := guessBy(a, e), guessBy(b, e)
				for count := 0; count <= 64; count += 3 {
					look(slices.Concat(one[:count], other[count:]), e)
				}
			}
		}
	}
	for _, delta := range [][8]int{{1}, {2}, {3}, {1, 1}, {1, 2, 1}, {0, 0, 0, 0, 0, 0, 0, 1}, {0, 1, 0, 1, 0, 1, 0, 1}} {
		e := edgesOf(sumsOf(allAlike(8, 50), delta[:]), sumsOf(allAlike(8, 50), row(0, 0, 0, 0, 0, 0, 1, 1)), 50)
		for a := range 4 {
			for b := range a {
				one, other := guessBy(a, e), guessBy(b, e)
				for count := range 65 {
					look(slices.Concat(one[:count], other[count:]), e)
				}
			}
		}
	}
	for across := range 8 {
		for down := range 8 {
			look(crossTie(across, down))
		}
	}
	for _, two := range [][2]int{{0, 1}, {0, 2}, {0, 3}, {1, 2}, {1, 3}, {2, 3}} {
		if same[two] == 0 {
			t.Errorf("the modes %v never cost the same", two)
		}
	}
	if turnedBySize == 0 {
		t.Error("what is sent for the mode never turned the choice")
	}
}

func TestBestGuessWhereNoModeMeets(t *testing.T) {
	wantBest(t, allAlike(64, 0), edgesOf(nil, nil, -1), 0, 8193)
	wantBest(t, allAlike(64, 255), edgesOf(nil, nil, -1), 0, 8129)
	wantBest(t, allAlike(64, 255), edgesOf(nil, nil, 0), 3, 5)
	wantBest(t, allAlike(64, 255), edgesOf(allAlike(8, 0), allAlike(8, 0), 0), 0, 16321)
	wantBest(t, allAlike(64, 0), edgesOf(allAlike(8, 255), allAlike(8, 255), 255), 0, 16321)
	wants := [][]int{allAlike(64, 0), allAlike(64, 255), slices.Repeat(row(0, 255), 32), append(allAlike(32, 0), allAlike(32, 255)...)}
	for _, list := range drawn(6, 64, 127) {
		wants = append(wants, sumsOf(list, allAlike(64, 127)))
	}
	for _, want := range wants {
		for _, e := range rightEdges() {
			checkBest(t, want, e)
		}
	}
}

func TestBestGuessOfPictures(t *testing.T) {
	for _, p := range []impl.Pic{everyDot(), drawnPic(24, 16), flatPic(16, 16, 9), picOf(24, 24, func(x, y int) int { return 5*x + 3*y })} {
		for x := 0; x+8 <= p.Wide; x += 8 {
			for y := 0; y+8 <= p.High; y += 8 {
				e, ok := impl.EdgesOf(p, x, y)
				if !ok {
					t.Fatalf("EdgesOf(%s, %d, %d): none", shownPic(p), x, y)
				}
				checkBest(t, impl.BlockOf(p, x, y), e)
			}
		}
	}
}

func TestBestGuessOfWrongDots(t *testing.T) {
	edges := []impl.Edges{{}, edgesOf(nil, nil, -1), edgesOf(allAlike(8, 128), nil, 0), edgesOf(allAlike(8, 9), allAlike(8, 7), 5)}
	for _, e := range edges {
		wantBest(t, nil, e, 0, -1)
		for _, size := range []int{0, 1, 8, 16, 63, 65, 128} {
			wantBest(t, allAlike(size, 128), e, 0, -1)
		}
		for place := range 64 {
			for _, n := range append(beyond(255), -1, -2, 256, -255, 1000, -1000, 1001) {
				wantBest(t, sumsOf(allAlike(64, 128), alone(64, place, n-128)), e, 0, -1)
			}
			for _, n := range []int{0, 255} {
				checkBest(t, sumsOf(allAlike(64, 128), alone(64, place, n-128)), e)
			}
		}
	}
}

// withRoom has numbers behind it that are not its own.
func withRoom(list []int) []int {
	return append(slices.Clone(list), 77, 78, 79, 80, 81, 82, 83, 84)[:len(list)]
}

func allOf(list []int) []int { return list[:cap(list)] }

func TestGuessesLeaveTheirLists(t *testing.T) {
	for _, e := range append(rightEdges()[:60], wrongEdges()[:12]...) {
		for _, want := range [][]int{allAlike(64, 128), upTo(64), allAlike(63, 1), alone(64, 5, 256)} {
			given := edgesOf(withRoom(e.Above), withRoom(e.Left), e.Corner)
			wanted, other := withRoom(want), withRoom(allAlike(64, 3))
			lists := [][]int{allOf(given.Above), allOf(given.Left), allOf(wanted), allOf(other)}
			before := [][]int{}
			for _, list := range lists {
				before = append(before, slices.Clone(list))
			}
			for mode := -1; mode <= 4; mode++ {
				impl.GuessOf(mode, given)
			}
			impl.EdgesOk(given)
			impl.GapOf(wanted, other)
			impl.GapOf(other, wanted)
			impl.BestGuess(wanted, given)
			for i, list := range lists {
				if !slices.Equal(list, before[i]) {
					t.Fatalf("of %v and %v a list was changed from %v to %v", e, want, before[i], list)
				}
			}
		}
	}
}

func TestGuessesShareNoMemory(t *testing.T) {
	for _, e := range rightEdges()[:80] {
		for mode := range 4 {
			given, want := edgesOf(withRoom(e.Above), withRoom(e.Left), e.Corner), guessBy(mode, e)
			got := impl.GuessOf(mode, given)
			for _, list := range [][]int{allOf(given.Above), allOf(given.Left)} {
				for place := range list {
					list[place] = 200
				}
			}
			if !slices.Equal(got, want) {
				t.Fatalf("GuessOf(%d, %v) was changed by its edges: %v", mode, e, got)
			}
			given = edgesOf(slices.Clone(e.Above), slices.Clone(e.Left), e.Corner)
			first := impl.GuessOf(mode, given)
			for place := range allOf(first) {
				allOf(first)[place] = -9
			}
			if !sameEdges(given, e) {
				t.Fatalf("GuessOf(%d, %v) changed its edges through its answer: %v", mode, e, given)
			}
			wantGuess(t, mode, given, want)
		}
	}
}

func TestEdgesShareNoMemory(t *testing.T) {
	p := everyDot()
	for _, at := range [][2]int{{0, 0}, {8, 0}, {0, 8}, {8, 8}} {
		want := edgesBy(p, at[0], at[1])
		first, _ := impl.EdgesOf(p, at[0], at[1])
		second, _ := impl.EdgesOf(p, at[0], at[1])
		for place := range allOf(first.Above) {
			allOf(first.Above)[place] = -7
		}
		if !slices.Equal(first.Left, want.Left) {
			t.Fatalf("EdgesOf at %v: its lists share memory", at)
		}
		for place := range allOf(first.Left) {
			allOf(first.Left)[place] = -8
		}
		if slices.Contains(first.Above, -8) {
			t.Fatalf("EdgesOf at %v: its lists share memory", at)
		}
		if !sameEdges(second, want) {
			t.Fatalf("EdgesOf at %v, written over, changed another answer to %v", at, second)
		}
		wantEdges(t, everyDot(), at[0], at[1], want)
	}
}

// Each call is made again behind others, so that what was kept from them would be seen.
func TestGuessesKeepNothing(t *testing.T) {
	e, other := edgesOf(upTo(8), span(100, 8), 50), edgesOf(nil, allAlike(8, 255), -1)
	first, _ := impl.EdgesOf(everyDot(), 8, 8)
	wantNoEdges(t, everyDot(), 9, 8)
	impl.EdgesOf(drawnPic(16, 16), 8, 8)
	wantEdges(t, everyDot(), 8, 8, first)
	for range 2 {
		for mode := range 4 {
			wantGuess(t, mode, e, guessBy(mode, e))
			wantGuess(t, mode, other, guessBy(mode, other))
		}
		checkBest(t, upTo(64), e)
		wantBest(t, allAlike(64, 256), e, 0, -1)
		checkBest(t, allAlike(64, 3), other)
		wantGap(t, upTo(64), allAlike(64, 0), 2016)
		wantGap(t, upTo(63), allAlike(64, 0), -1)
	}
}
