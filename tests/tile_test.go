package tests

import (
	"fmt"
	"math"
	"slices"
	"strings"
	"testing"

	"loop.example/g00960/impl"
)

// tileSquares are right squares that the Cond lets be: all kinds, modes and moves come up in turn, with few levels, so that dots stay unlike.
func tileSquares(n, from int, c impl.Cond) []impl.Square {
	levels := sparse(11, 64, 30, 9)
	squares := []impl.Square{}
	for i := from; i < from+n; i++ {
		list := levels[i%len(levels)]
		switch {
		case c.Key || i%5 == 1 || i%5 == 4:
			squares = append(squares, guessed(i%4, list))
		case i%5 == 2:
			squares = append(squares, impl.Square{})
		default:
			squares = append(squares, moved(i*7%33-16, i*11%33-16, list))
		}
	}
	return squares
}

func tileSigns(squares []impl.Square, c impl.Cond) string {
	signs := []string{}
	for _, q := range squares {
		signs = append(signs, squareSigns(q, c))
	}
	return strings.Join(signs, "")
}

func sameSquares(a, b []impl.Square) bool { return slices.EqualFunc(a, b, sameSquare) }

// shownSquares are told up to the first few.
func shownSquares(squares []impl.Square) string {
	text := fmt.Sprintf("%d squares", len(squares))
	for _, q := range squares[:min(len(squares), 3)] {
		text += fmt.Sprintf(" %+v", q)
	}
	return text
}

func tileSizes() []int { return []int{1, 2, 3, 7, 8, 9, 31, 63, impl.MaxTile} }

func wrongSizes() []int {
	return append(farNumbers(), -impl.MaxTile, -2, -1, 0, impl.MaxTile+1, impl.MaxTile+2, 128, 1<<32+1, math.MinInt+1)
}

// with is a copy of the squares with another one at a place.
func with(squares []impl.Square, place int, q impl.Square) []impl.Square {
	other := slices.Clone(squares)
	other[place] = q
	return other
}

func wantTileRow(t *testing.T, squares []impl.Square, c impl.Cond, want string) {
	t.Helper()
	if got, ok := impl.TileRow(squares, c); !ok || got != want {
		t.Fatalf("TileRow of %s, %+v: %.80q, %v; want %.80q", shownSquares(squares), c, got, ok, want)
	}
}

func wantNoTileRow(t *testing.T, squares []impl.Square, c impl.Cond) {
	t.Helper()
	if got, ok := impl.TileRow(squares, c); ok || got != "" {
		t.Fatalf("TileRow of %s, %+v: %.80q, %v; want a refusal", shownSquares(squares), c, got, ok)
	}
}

func wantTileAt(t *testing.T, row string, at, n int, c impl.Cond, want []impl.Square) {
	t.Helper()
	if got, ok := impl.ReadTile(row, at, n, c); !ok || !sameSquares(got, want) {
		t.Fatalf("ReadTile(%.80q, %d, %d, %+v): %s, %v; want %s", row, at, n, c, shownSquares(got), ok, shownSquares(want))
	}
}

func wantNoTileAt(t *testing.T, row string, at, n int, c impl.Cond) {
	t.Helper()
	if got, ok := impl.ReadTile(row, at, n, c); ok || len(got) != 0 {
		t.Fatalf("ReadTile(%.80q, %d, %d, %+v): %s, %v; want a refusal", row, at, n, c, shownSquares(got), ok)
	}
}

func TestTileLimits(t *testing.T) {
	if impl.MaxTile != 64 {
		t.Error("a constant is not the chapter's")
	}
}

func TestTileRowByHand(t *testing.T) {
	zeros := allAlike(64, 0)
	skip, guess := impl.Square{}, guessed(2, zeros)
	for _, c := range []impl.Cond{largeAt(0), exactAt(0), largeAt(40), exactAt(40)} {
		wantTileRow(t, []impl.Square{skip}, c, "1")
		wantTileRow(t, []impl.Square{skip, skip, skip}, c, "111")
		wantTileRow(t, []impl.Square{guess, skip}, c, "011"+"011"+"1"+"1")
		wantTileRow(t, []impl.Square{skip, guess}, c, "1"+"011"+"011"+"1")
		wantTileRow(t, []impl.Square{moved(1, -1, zeros), skip, guess}, c, "010"+"010"+"011"+"1"+"1"+"011"+"011"+"1")
		wantTileRow(t, []impl.Square{guess, guessed(0, alone(64, 0, 1))}, keyed(c), "011"+"1"+"1"+"010"+"1"+"010")
	}
	wantTileRow(t, []impl.Square{guess, skip, guess}, smallAt(3), "011"+"011"+"1111"+"1"+"011"+"011"+"1111")
	wantTileRow(t, []impl.Square{guess, guess}, keyed(smallAt(3)), "011"+"1111"+"011"+"1111")
	wantTileRow(t, slices.Repeat([]impl.Square{skip}, 64), smallAt(3), strings.Repeat("1", 64))
	wantTileRow(t, slices.Repeat([]impl.Square{guessed(0, zeros)}, 64), keyed(exactAt(3)), strings.Repeat("11", 64))
}

func TestTileRowIsTheRowsOfItsSquares(t *testing.T) {
	for _, c := range withKeys(someConds()) {
		for _, n := range tileSizes() {
			squares := tileSquares(n, n, c)
			wantTileRow(t, squares, c, tileSigns(squares, c))
		}
	}
	for _, c := range withKeys(rightConds()) {
		wantTileRow(t, tileSquares(4, 0, c), c, tileSigns(tileSquares(4, 0, c), c))
	}
}

func TestTileRowOfOtherNumbersOfSquares(t *testing.T) {
	for _, c := range withKeys(condsAt(5)) {
		wantNoTileRow(t, nil, c)
		wantNoTileRow(t, []impl.Square{}, c)
		for n := range 70 {
			squares := tileSquares(n, 3, c)
			if n >= 1 && n <= 64 {
				wantTileRow(t, squares, c, tileSigns(squares, c))
			} else {
				wantNoTileRow(t, squares, c)
			}
		}
		for _, n := range []int{128, 256, 257, 1000} {
			wantNoTileRow(t, tileSquares(n, 3, c), c)
		}
	}
}

func TestTileRowWithAWrongSquare(t *testing.T) {
	for i, wrong := range wrongSquares() {
		for _, c := range withKeys(condsAt(i % 41)) {
			wantNoTileRow(t, []impl.Square{wrong}, c)
			squares := tileSquares(5, i, c)
			wantNoTileRow(t, with(squares, i%5, wrong), c)
		}
	}
	for _, c := range withKeys(condsAt(7)) {
		for place := range impl.MaxTile {
			wantNoTileRow(t, with(tileSquares(impl.MaxTile, 1, c), place, impl.Square{Kind: 3}), c)
			wantNoTileRow(t, with(tileSquares(impl.MaxTile, 1, c), place, guessed(0, allAlike(63, 0))), c)
		}
	}
}

func TestTileRowWithWhatKeyDoesNotLetBe(t *testing.T) {
	for _, c := range condsAt(7) {
		for _, q := range []impl.Square{{}, moved(0, 0, allAlike(64, 0)), moved(-16, 16, upTo(64))} {
			for _, n := range tileSizes() {
				for place := range n {
					squares := with(tileSquares(n, 1, keyed(c)), place, q)
					wantNoTileRow(t, squares, keyed(c))
					wantTileRow(t, squares, c, tileSigns(squares, c))
				}
			}
		}
	}
}

func TestNoTileOfAWrongCond(t *testing.T) {
	for _, c := range wrongConds() {
		for _, n := range []int{1, 4, 64} {
			wantNoTileRow(t, slices.Repeat([]impl.Square{{}}, n), c)
			wantNoTileRow(t, slices.Repeat([]impl.Square{guessed(0, allAlike(64, 0))}, n), c)
			for _, signs := range []string{"1", "11", "01111", "11111", "0111111"} {
				row := strings.Repeat(signs, n)
				wantNoTileAt(t, row, 0, n, c)
				wantNoTileAt(t, row, len(row), n, c)
			}
		}
	}
}

// Each row stands behind other signs, none of which may be taken for its own; behind it stands nothing.
func TestTilesComeBackFromTheirRows(t *testing.T) {
	for _, c := range withKeys(append(condsAt(0), condsAt(impl.MaxQp)...)) {
		for _, n := range tileSizes() {
			squares := tileSquares(n, 2*n, c)
			row, _ := impl.TileRow(squares, c)
			for _, ahead := range []string{"", "0", "1", "0000000", longRow(41)} {
				wantTileAt(t, ahead+row, len(ahead), n, c, squares)
				wantNoTileAt(t, ahead+row+"0", len(ahead), n, c)
				wantNoTileAt(t, ahead+row+"1", len(ahead), n, c)
				wantNoTileAt(t, ahead+row+longRow(37), len(ahead), n, c)
				wantNoTileAt(t, ahead+row[:len(row)-1], len(ahead), n, c)
				wantNoTileAt(t, ahead+row, len(ahead), n-1, c)
				wantNoTileAt(t, ahead+row, len(ahead), n+1, c)
			}
		}
	}
	for _, c := range withKeys(rightConds()) {
		squares := tileSquares(3, c.Qp, c)
		wantTileAt(t, "01"+tileSigns(squares, c), 2, 3, c, squares)
	}
}

func TestEachSquareComesBackInATile(t *testing.T) {
	for _, c := range withKeys(condsAt(2)) {
		for _, q := range rightSquares() {
			if hasRow(q, c) {
				squares := with(tileSquares(3, 1, c), 1, q)
				row, _ := impl.TileRow(squares, c)
				wantTileAt(t, row, 0, 3, c, squares)
				wantTileAt(t, squareSigns(q, c), 0, 1, c, []impl.Square{q})
			}
		}
	}
}

func TestReadTileOfEachNumber(t *testing.T) {
	for _, c := range withKeys(condsAt(4)) {
		squares := tileSquares(66, 5, c)
		for size := 1; size <= 66; size++ {
			row := "1" + tileSigns(squares[:size], c)
			for _, n := range append(wrongSizes(), 1, 2, size-1, size, size+1, 63, 64) {
				if n == size && n <= impl.MaxTile {
					wantTileAt(t, row, 1, n, c, squares[:n])
				} else {
					wantNoTileAt(t, row, 1, n, c)
				}
			}
		}
		for _, n := range wrongSizes() {
			wantNoTileAt(t, "", 0, n, c)
			wantNoTileAt(t, "1", 1, n, c)
		}
	}
}

func TestARowThatEndsWithinATile(t *testing.T) {
	for _, c := range withKeys(condsAt(9)) {
		for _, n := range []int{1, 2, 6} {
			squares := tileSquares(n, 4, c)
			row := tileSigns(squares, c)
			for cut := range len(row) {
				wantNoTileAt(t, row[:cut], 0, n, c)
				wantNoTileAt(t, "101"+row[:cut], 3, n, c)
			}
			wantTileAt(t, "101"+row, 3, n, c, squares)
		}
	}
}

// A square that is none stands first, amid others and last.
func TestRowsWithASquareThatThereIsNot(t *testing.T) {
	for _, c := range condsAt(1) {
		levels := levelsSigns(allAlike(64, 0), c)
		for _, none := range []string{ueRowOf(3), ueRowOf(impl.MaxUe), "011" + ueRowOf(4) + levels, "010" + seRowOf(17) + "1" + levels, "010" + "1" + seRowOf(-17) + levels, "0111" + signsOf(1, 64, 1)} {
			for place := range 4 {
				ahead, behind := tileSigns(tileSquares(place, 0, c), c), tileSigns(tileSquares(3-place, 0, c), c)
				wantNoTileAt(t, ahead+none+behind, 0, 4, c)
				for n := 1; n <= 8; n++ {
					wantNoTileAt(t, ahead+none+strings.Repeat("1", n), 0, n, c)
				}
			}
		}
		for place := range 4 {
			key := keyed(c)
			ahead, behind := tileSigns(tileSquares(place, 0, key), key), tileSigns(tileSquares(3-place, 0, key), key)
			wantNoTileAt(t, ahead+ueRowOf(4)+levels+behind, 0, 4, key)
			wantTileAt(t, ahead+ueRowOf(3)+levels+behind, 0, 4, key, slices.Concat(tileSquares(place, 0, key), []impl.Square{guessed(3, allAlike(64, 0))}, tileSquares(3-place, 0, key)))
		}
	}
}

// tileReadAt is what ReadTile must answer, a square after the other.
func tileReadAt(row string, at, n int, c impl.Cond) ([]impl.Square, bool) {
	if at < 0 || at > len(row) {
		return nil, false
	}
	squares := []impl.Square{}
	for range n {
		q, behind, ok := squareReadAt(row, at, c)
		if !ok {
			return nil, false
		}
		squares, at = append(squares, q), behind
	}
	return squares, at == len(row)
}

func checkTileAt(t *testing.T, row string, at, n int, c impl.Cond) {
	t.Helper()
	want, ok := tileReadAt(row, at, n, c)
	if !ok {
		wantNoTileAt(t, row, at, n, c)
		return
	}
	wantTileAt(t, row, at, n, c, want)
	wantTileRow(t, want, c, row[at:])
}

func TestReadTileAtEachPlaceOfEachRow(t *testing.T) {
	rows := []string{longRow(300), strings.Repeat("1", 70), strings.Repeat("011", 40), strings.Repeat("0", 70)}
	for _, c := range withKeys(condsAt(4)) {
		rows = append(rows, longRow(9)+tileSigns(tileSquares(4, 2, c), c))
	}
	eachPlaceOfRows(9, rows, func(row string, at int) {
		for _, c := range withKeys(condsAt(4)) {
			for _, n := range []int{1, 2, 3, 4, 9, 64} {
				checkTileAt(t, row, at, n, c)
			}
		}
	})
}

func TestReadTileAtFarPlaces(t *testing.T) {
	for _, c := range withKeys(condsAt(impl.MaxQp)) {
		for _, n := range []int{1, 5, 64} {
			row := "1" + tileSigns(tileSquares(n, 0, c), c)
			for _, at := range append(farNumbers(), -2, -1, len(row), len(row)+1, len(row)+2) {
				if at < 0 || at >= len(row) {
					wantNoTileAt(t, row, at, n, c)
				}
			}
			wantNoTileAt(t, "", 0, n, c)
		}
	}
}

// The whole row is looked at, not only the signs of the tile.
func TestReadTileOfNoRow(t *testing.T) {
	for _, c := range withKeys(condsAt(0)) {
		squares := tileSquares(2, 1, c)
		row := "10" + tileSigns(squares, c)
		wantTileAt(t, row, 2, 2, c, squares)
		for b := range 256 {
			if b == '0' || b == '1' {
				continue
			}
			for place := range len(row) {
				wantNoTileAt(t, row[:place]+byteText(b)+row[place+1:], 2, 2, c)
			}
			wantNoTileAt(t, row+byteText(b), 2, 2, c)
		}
	}
}

func TestTilesInTheLongestRow(t *testing.T) {
	for _, c := range withKeys(condsAt(11)) {
		for _, squares := range [][]impl.Square{tileSquares(1, 1, c), tileSquares(64, 1, c), slices.Repeat([]impl.Square{guessed(3, allAlike(64, -impl.MaxLevel))}, 64)} {
			signs := tileSigns(squares, c)
			wantTileRow(t, squares, c, signs)
			full := longRow(impl.MaxRow-len(signs)) + signs
			wantTileAt(t, full, impl.MaxRow-len(signs), len(squares), c, squares)
			wantNoTileAt(t, full, impl.MaxRow, len(squares), c)
			wantNoTileAt(t, "1"+full, impl.MaxRow+1-len(signs), len(squares), c)
		}
	}
}

// dotsBy goes by the ways of these tests; all that it is given is right.
func dotsBy(now, ref impl.Pic, left, top int, c impl.Cond, x, y int, q impl.Square) []int {
	if q.Kind == 0 {
		return blockBy(ref, left+x, top+y)
	}
	guess := []int{}
	if q.Kind == 1 {
		guess = blockBy(ref, left+x+q.Dx, top+y+q.Dy)
	} else {
		guess = guessBy(q.Mode, edgesBy(now, x, y))
	}
	back := backBy(q.Levels, c)
	return eachPlace(func(place int) int { return min(255, max(0, guess[place]+back[place])) })
}

func squarePic(dots []int) impl.Pic {
	return picOf(8, 8, func(x, y int) int { return dots[8*y+x] })
}

// shownBy puts square after square; all that it is given is right.
func shownBy(ref impl.Pic, r impl.Rect, c impl.Cond, confined bool, squares []impl.Square) impl.Pic {
	left, top, across := r.Left, r.Top, r.Wide/8
	if confined && !c.Key {
		ref, left, top = cutBy(ref, r), 0, 0
	}
	shown := flatPic(r.Wide, r.High, 128)
	for i, q := range squares {
		x, y := 8*(i%across), 8*(i/across)
		shown = pastedBy(shown, squarePic(dotsBy(shown, ref, left, top, c, x, y, q)), x, y)
	}
	return shown
}

func wantDots(t *testing.T, now, ref impl.Pic, left, top int, c impl.Cond, x, y int, q impl.Square, want []int) {
	t.Helper()
	if got, ok := impl.SquareDots(now, ref, left, top, c, x, y, q); !ok || !slices.Equal(got, want) {
		t.Fatalf("SquareDots(%s; %s; %d, %d, %+v, %d, %d, %+v): %v, %v; want %v", shownPic(now), shownPic(ref), left, top, c, x, y, q, got, ok, want)
	}
}

func wantNoDots(t *testing.T, now, ref impl.Pic, left, top int, c impl.Cond, x, y int, q impl.Square) {
	t.Helper()
	if got, ok := impl.SquareDots(now, ref, left, top, c, x, y, q); ok || len(got) != 0 {
		t.Fatalf("SquareDots(%s; %s; %d, %d, %+v, %d, %d, %+v): %v, %v; want a refusal", shownPic(now), shownPic(ref), left, top, c, x, y, q, got, ok)
	}
}

func wantShown(t *testing.T, ref impl.Pic, r impl.Rect, c impl.Cond, confined bool, squares []impl.Square, want impl.Pic) {
	t.Helper()
	if got, ok := impl.TileBack(ref, r, c, confined, squares); !ok || got != want {
		t.Fatalf("TileBack(%s; %+v, %+v, %v, %s): %s, %v; want %s", shownPic(ref), r, c, confined, shownSquares(squares), shownPic(got), ok, shownPic(want))
	}
}

func wantNotShown(t *testing.T, ref impl.Pic, r impl.Rect, c impl.Cond, confined bool, squares []impl.Square) {
	t.Helper()
	if got, ok := impl.TileBack(ref, r, c, confined, squares); ok || got != (impl.Pic{}) {
		t.Fatalf("TileBack(%s; %+v, %+v, %v, %s): %s, %v; want a refusal", shownPic(ref), r, c, confined, shownSquares(squares), shownPic(got), ok)
	}
}

// sixteens has rows of 16 numbers: the dots of everyDot from x and y on.
func sixteens(x, y int) []int {
	return eachPlace(func(place int) int { return 16*(y+place/8) + x + place%8 })
}

func TestSquareDotsByHand(t *testing.T) {
	now, ref, zeros := impl.Grey(16, 16), everyDot(), allAlike(64, 0)
	for _, c := range condsAt(0) {
		wantDots(t, now, ref, 0, 0, c, 0, 0, impl.Square{}, sixteens(0, 0))
		wantDots(t, now, ref, 0, 0, c, 8, 0, impl.Square{}, sixteens(8, 0))
		wantDots(t, now, ref, 0, 0, c, 0, 8, impl.Square{}, sixteens(0, 8))
		wantDots(t, now, ref, 3, 5, c, 0, 0, impl.Square{}, sixteens(3, 5))
		wantDots(t, now, ref, 0, 8, c, 8, 0, impl.Square{}, sixteens(8, 8))
		wantDots(t, now, ref, 2, 4, c, 0, 0, moved(3, -1, zeros), sixteens(5, 3))
		wantDots(t, now, ref, 0, 0, c, 8, 8, moved(-8, -3, zeros), sixteens(0, 5))
		wantDots(t, now, ref, 0, 0, c, 8, 0, moved(16, -16, zeros), allAlike(64, 15))
		wantDots(t, now, ref, 256, 256, c, 8, 8, impl.Square{}, allAlike(64, 255))
		wantDots(t, now, ref, 256, 0, c, 8, 0, moved(16, -8, zeros), allAlike(64, 15))
		// What is above and at the left in now is grey, but nothing stands above the first row.
		for mode := range 4 {
			wantDots(t, now, ref, 7, 9, c, 8, 8, guessed(mode, zeros), allAlike(64, 128))
			wantDots(t, now, impl.Pic{}, 0, 0, keyed(c), 0, 0, guessed(mode, zeros), allAlike(64, 128))
		}
		wantDots(t, ref, now, 0, 0, c, 8, 8, guessed(1, zeros), slices.Repeat(row(120, 121, 122, 123, 124, 125, 126, 127), 8))
		wantDots(t, ref, now, 4, 0, keyed(c), 0, 8, guessed(1, zeros), slices.Repeat(row(112, 113, 114, 115, 116, 117, 118, 119), 8))
	}
	wantDots(t, now, ref, 0, 0, exactAt(0), 0, 0, moved(0, 0, alone(64, 0, 7)), sumsOf(sixteens(0, 0), alone(64, 0, 7)))
	wantDots(t, now, ref, 0, 0, exactAt(0), 8, 8, moved(0, 0, allAlike(64, 200)), eachPlace(func(place int) int { return min(255, 336+16*(place/8)+place%8) }))
	wantDots(t, now, ref, 0, 0, exactAt(0), 8, 8, guessed(0, alone(64, 2, -200)), sumsOf(allAlike(64, 128), alone(64, 8, -128)))
	wantDots(t, now, ref, 0, 0, largeAt(0), 8, 8, guessed(0, alone(64, 0, 64)), allAlike(64, 138))
	wantDots(t, now, ref, 0, 0, smallAt(0), 8, 8, guessed(0, alone(64, 16, 64)), inQuarters(allAlike(16, 128), allAlike(16, 138), allAlike(16, 128), allAlike(16, 128)))
}

// startsOf are where squares of a side may begin.
func startsOf(side int) []int {
	starts := []int{}
	for n := 0; n+8 <= side; n += 8 {
		starts = append(starts, n)
	}
	return starts
}

func TestSquareDotsAreWhatTheChapterTells(t *testing.T) {
	refs := []impl.Pic{everyDot(), drawnPic(1, 1), drawnPic(8, 8), drawnPic(9, 70), drawnPic(256, 256)}
	offs := [][2]int{{0, 0}, {8, 16}, {5, 3}, {255, 1}, {256, 256}}
	for i, now := range []impl.Pic{drawnPic(8, 8), drawnPic(24, 16), drawnPic(13, 30), everyDot()} {
		for k, c := range withKeys(someConds()) {
			for j, x := range startsOf(now.Wide) {
				for _, y := range startsOf(now.High) {
					ref, off := refs[(i+k+y)%5], offs[(j+2*k+y)%5]
					for _, q := range append(tileSquares(7, k+j+y, c), guessed(k%4, allAlike(64, impl.MaxLevel)), guessed(1, alone(64, 5, -impl.MaxLevel))) {
						wantDots(t, now, ref, off[0], off[1], c, x, y, q, dotsBy(now, ref, off[0], off[1], c, x, y, q))
					}
				}
			}
		}
	}
}

func TestSquareDotsOfEachMove(t *testing.T) {
	now, ref, levels := impl.Grey(16, 16), drawnPic(40, 37), sparse(1, 64, 9, 5)[0]
	for dx := -impl.MaxMove; dx <= impl.MaxMove; dx++ {
		for dy := -impl.MaxMove; dy <= impl.MaxMove; dy++ {
			q := moved(dx, dy, levels)
			wantDots(t, now, ref, 9, 13, exactAt(1), 8, 0, q, dotsBy(now, ref, 9, 13, exactAt(1), 8, 0, q))
		}
	}
	for _, off := range [][2]int{{0, 0}, {0, 256}, {256, 0}, {256, 256}} {
		for _, q := range []impl.Square{moved(16, 16, levels), moved(-16, -16, levels), moved(16, -16, levels), {}} {
			for _, at := range [][2]int{{0, 0}, {248, 248}, {0, 248}, {248, 0}} {
				wantDots(t, drawnPic(256, 256), ref, off[0], off[1], smallAt(1), at[0], at[1], q, dotsBy(now, ref, off[0], off[1], smallAt(1), at[0], at[1], q))
			}
		}
	}
}

func TestSquareDotsAtEachPlace(t *testing.T) {
	ref := drawnPic(20, 20)
	for _, size := range [][2]int{{8, 8}, {16, 8}, {8, 24}, {17, 15}, {7, 16}, {16, 7}, {23, 31}} {
		now := drawnPic(size[0], size[1])
		for x := -9; x <= size[0]+9; x++ {
			for y := -9; y <= size[1]+9; y++ {
				right := x >= 0 && y >= 0 && x%8 == 0 && y%8 == 0 && x+8 <= size[0] && y+8 <= size[1]
				for _, q := range []impl.Square{{}, moved(3, -4, allAlike(64, 0)), guessed(2, alone(64, 0, 9))} {
					if right {
						wantDots(t, now, ref, 2, 1, exactAt(0), x, y, q, dotsBy(now, ref, 2, 1, exactAt(0), x, y, q))
					} else {
						wantNoDots(t, now, ref, 2, 1, exactAt(0), x, y, q)
					}
				}
			}
		}
		for _, n := range append(farNumbers(), -8, -16, 1<<32, 1<<32+8, 1<<62, math.MinInt+8, math.MaxInt-7) {
			for _, q := range []impl.Square{{}, moved(3, -4, allAlike(64, 0)), guessed(2, alone(64, 0, 9))} {
				wantNoDots(t, now, ref, 0, 0, exactAt(0), n, 0, q)
				wantNoDots(t, now, ref, 0, 0, exactAt(0), 0, n, q)
				wantNoDots(t, now, ref, 0, 0, exactAt(0), n, n, q)
			}
		}
	}
}

func TestSquareDotsOfOtherOffsets(t *testing.T) {
	now, ref := drawnPic(16, 16), drawnPic(40, 40)
	for _, c := range condsAt(3) {
		for _, q := range []impl.Square{{}, moved(-3, 2, allAlike(64, 0)), guessed(0, allAlike(64, 0))} {
			for _, n := range []int{0, 1, 8, 255, impl.MaxWide} {
				for _, other := range []int{0, 5, impl.MaxWide} {
					wantDots(t, now, ref, n, other, c, 8, 8, q, dotsBy(now, ref, n, other, c, 8, 8, q))
					wantDots(t, now, ref, other, n, c, 0, 8, q, dotsBy(now, ref, other, n, c, 0, 8, q))
				}
			}
			for _, n := range append(farNumbers(), -8, -1, impl.MaxWide+1, impl.MaxWide+8, 1<<32, math.MinInt+8, math.MaxInt-15) {
				for _, other := range []int{0, 8, impl.MaxWide} {
					wantNoDots(t, now, ref, n, other, c, 8, 8, q)
					wantNoDots(t, now, ref, other, n, c, 8, 8, q)
				}
				wantNoDots(t, now, ref, n, n, c, 0, 0, q)
				wantNoDots(t, now, ref, n, 0, keyed(c), 0, 0, guessed(0, allAlike(64, 0)))
				wantNoDots(t, now, ref, 0, n, keyed(c), 0, 0, guessed(0, allAlike(64, 0)))
			}
		}
	}
}

func TestSquareDotsOfWrongSquares(t *testing.T) {
	now, ref := impl.Grey(8, 8), drawnPic(16, 16)
	for i, q := range wrongSquares() {
		for _, c := range withKeys(condsAt(i % 41)) {
			wantNoDots(t, now, ref, 0, 0, c, 0, 0, q)
		}
	}
	for _, c := range condsAt(4) {
		for _, q := range append(moves(), impl.Square{}) {
			wantNoDots(t, now, ref, 0, 0, keyed(c), 0, 0, q)
		}
	}
	for _, c := range wrongConds() {
		for _, q := range someSquares() {
			wantNoDots(t, now, ref, 0, 0, c, 0, 0, q)
		}
	}
}

// A guess asks nothing of ref.
func TestSquareDotsOfWrongPictures(t *testing.T) {
	right, guess := drawnPic(16, 16), guessed(3, alone(64, 1, 40))
	for i, wrong := range wrongPics() {
		c := condsAt(i % 41)[i%3]
		for _, q := range []impl.Square{{}, moved(1, 0, allAlike(64, 0)), guess} {
			wantNoDots(t, wrong, right, 0, 0, c, 0, 0, q)
			wantNoDots(t, wrong, wrong, 0, 0, c, 8, 8, q)
		}
		wantNoDots(t, wrong, right, 0, 0, keyed(c), 0, 0, guess)
		wantNoDots(t, right, wrong, 0, 0, c, 0, 0, impl.Square{})
		wantNoDots(t, right, wrong, 0, 0, c, 8, 8, moved(1, 0, allAlike(64, 0)))
		for _, one := range []impl.Cond{c, keyed(c)} {
			wantDots(t, right, wrong, 4, 256, one, 8, 8, guess, dotsBy(right, right, 0, 0, c, 8, 8, guess))
		}
	}
}

func TestTileBackByHand(t *testing.T) {
	ref, zeros := everyDot(), allAlike(64, 0)
	guess := func(mode, first int) impl.Square { return guessed(mode, alone(64, 0, first)) }
	for _, confined := range []bool{false, true} {
		for _, r := range []impl.Rect{rectAt(0, 0, 8, 8), rectAt(8, 0, 8, 8), rectAt(3, 7, 8, 8), rectAt(8, 8, 8, 8)} {
			wantShown(t, ref, r, smallAt(0), confined, []impl.Square{{}}, cutBy(ref, r))
			wantShown(t, ref, r, exactAt(0), confined, []impl.Square{guess(0, 5)}, squarePic(sumsOf(allAlike(64, 128), alone(64, 0, 5))))
		}
		// Large levels of 64 and 128 make each dot 10 and 20 more.
		steps := []impl.Square{guess(0, 64), guess(2, 128), guess(1, 64), guess(3, 0)}
		want := picOf(16, 16, func(x, y int) int { return []int{138, 158, 148, 168}[2*(y/8)+x/8] })
		wantShown(t, ref, wholeOf(ref), largeAt(0), confined, steps, want)
		wantShown(t, impl.Pic{}, rectAt(256, 256, 16, 16), keyed(largeAt(0)), confined, steps, want)
		across := picOf(32, 8, func(x, y int) int { return []int{138, 158, 138, 138}[x/8] })
		wantShown(t, impl.Pic{}, rectAt(0, 0, 32, 8), keyed(largeAt(0)), confined, steps, across)
	}
	// The dots at the left of the rect are there when it is not confined; else its own first column comes again and again.
	left := moved(-8, 0, zeros)
	wantShown(t, ref, rectAt(8, 0, 8, 8), exactAt(0), false, []impl.Square{left}, cutBy(ref, rectAt(0, 0, 8, 8)))
	wantShown(t, ref, rectAt(8, 0, 8, 8), exactAt(0), true, []impl.Square{left}, picOf(8, 8, func(x, y int) int { return 16*y + 8 }))
	wantShown(t, ref, rectAt(0, 0, 8, 8), exactAt(0), false, []impl.Square{moved(4, 4, zeros)}, cutBy(ref, rectAt(4, 4, 8, 8)))
	wantShown(t, ref, rectAt(0, 0, 8, 8), exactAt(0), true, []impl.Square{moved(4, 4, zeros)}, picOf(8, 8, func(x, y int) int { return 16*min(y+4, 7) + min(x+4, 7) }))
}

func tileSides() []int { return []int{8, 16, 24, 32, 40, 48, 56, 64} }

// fewSides are the least, the greatest and others.
func fewSides() [][2]int { return [][2]int{{8, 8}, {16, 24}, {64, 8}, {8, 64}, {64, 64}} }

func countOf(r impl.Rect) int { return r.Wide / 8 * (r.High / 8) }

func TestTileBackIsWhatTheChapterTells(t *testing.T) {
	ref := drawnPic(80, 75)
	for i, wide := range tileSides() {
		for k, high := range tileSides() {
			r := rectAt((7*i+3*k)%(81-wide), (5*i+2*k)%(76-high), wide, high)
			for j, c := range condsAt((5*i + k) % 41) {
				if j == k%2 {
					c = keyed(c)
				}
				for _, confined := range []bool{false, true} {
					squares := tileSquares(countOf(r), i+j+k, c)
					wantShown(t, ref, r, c, confined, squares, shownBy(ref, r, c, confined, squares))
				}
			}
		}
	}
	for i, c := range withKeys(rightConds()) {
		r, squares := rectAt(i%40, i%51, 24, 16), tileSquares(6, i, c)
		for _, confined := range []bool{false, true} {
			wantShown(t, ref, r, c, confined, squares, shownBy(ref, r, c, confined, squares))
		}
	}
}

func TestTileBackAtTheEndsOfRef(t *testing.T) {
	for _, size := range [][2]int{{64, 64}, {256, 256}, {70, 256}, {256, 65}} {
		ref := drawnPic(size[0], size[1])
		for i, sides := range fewSides() {
			for _, left := range []int{0, size[0] - sides[0]} {
				for _, top := range []int{0, size[1] - sides[1]} {
					r := rectAt(left, top, sides[0], sides[1])
					squares := tileSquares(countOf(r), i, smallAt(2))
					for _, confined := range []bool{false, true} {
						wantShown(t, ref, r, smallAt(2), confined, squares, shownBy(ref, r, smallAt(2), confined, squares))
					}
				}
			}
		}
	}
}

// otherBeside has other dots everywhere but in r.
func otherBeside(ref impl.Pic, r impl.Rect) impl.Pic {
	return picOf(ref.Wide, ref.High, func(x, y int) int {
		if isIn(r, x, y) {
			return dotOf(ref, x, y)
		}
		return dotOf(ref, x, y) ^ 0x5a
	})
}

func TestAConfinedTileHangsOnNothingBesideIt(t *testing.T) {
	ref := drawnPic(90, 90)
	for i, sides := range fewSides() {
		for k, c := range condsAt(12) {
			r := rectAt(13-i, 9+2*k, sides[0], sides[1])
			squares := tileSquares(countOf(r), i, c)
			want := shownBy(ref, r, c, true, squares)
			own := cutBy(ref, r)
			wantShown(t, ref, r, c, true, squares, want)
			wantShown(t, otherBeside(ref, r), r, c, true, squares, want)
			wantShown(t, own, wholeOf(own), c, true, squares, want)
			wantShown(t, own, wholeOf(own), c, false, squares, want)
			wantShown(t, pastedBy(flatPic(256, 256, 3), own, 256-r.Wide, 256-r.High), rectAt(256-r.Wide, 256-r.High, r.Wide, r.High), c, true, squares, want)
			// The same tile fetches from beside when it is not confined.
			open, _ := impl.TileBack(ref, r, c, false, squares)
			other, ok := impl.TileBack(otherBeside(ref, r), r, c, false, squares)
			if !ok || open == other || open == want {
				t.Fatalf("nothing is fetched from beside %+v", r)
			}
		}
	}
}

func TestATileMovedFromBeside(t *testing.T) {
	ref := drawnPic(60, 60)
	for dx := -16; dx <= 16; dx += 4 {
		for dy := -16; dy <= 16; dy += 4 {
			for _, sides := range [][2]int{{8, 8}, {24, 16}} {
				r := rectAt(17, 18, sides[0], sides[1])
				squares := slices.Repeat([]impl.Square{moved(dx, dy, allAlike(64, 0))}, countOf(r))
				from := rectAt(17+dx, 18+dy, r.Wide, r.High)
				wantShown(t, ref, r, largeAt(7), false, squares, cutBy(ref, from))
				wantShown(t, otherBeside(ref, from), r, largeAt(7), false, squares, cutBy(ref, from))
				own := cutBy(ref, r)
				wantShown(t, ref, r, largeAt(7), true, squares, cutBy(own, rectAt(dx, dy, r.Wide, r.High)))
			}
		}
	}
}

func TestATileOfSkippedSquaresShowsWhatWasThere(t *testing.T) {
	ref := drawnPic(100, 90)
	for i, wide := range tileSides() {
		for k, high := range tileSides() {
			r := rectAt(3*i, 90-high-k, wide, high)
			want, _ := impl.CutOf(ref, r)
			for _, c := range condsAt(i) {
				for _, confined := range []bool{false, true} {
					wantShown(t, ref, r, c, confined, slices.Repeat([]impl.Square{{}}, countOf(r)), want)
				}
			}
		}
	}
}

// What a key shows is the same with any ref, also with one that is not right, or that the tile is not within.
func TestWithKeyRefMakesNoDifference(t *testing.T) {
	refs := append(wrongPics(), drawnPic(1, 1), drawnPic(8, 8), drawnPic(256, 256), everyDot(), flatPic(64, 64, 255))
	for i, sides := range fewSides() {
		for _, c := range condsAt(12 + i) {
			squares := tileSquares(sides[0]/8*(sides[1]/8), i, keyed(c))
			want := shownBy(impl.Pic{}, rectAt(0, 0, sides[0], sides[1]), keyed(c), false, squares)
			for k, ref := range refs {
				r := rectAt([]int{0, 3, 256, 255}[k%4], []int{256, 0, 8, 256, 1}[k%5], sides[0], sides[1])
				wantShown(t, ref, r, keyed(c), k%2 == 0, squares, want)
			}
			// The same squares need a right ref without Key, though none of them fetches from it.
			for _, confined := range []bool{false, true} {
				wantNotShown(t, impl.Pic{}, rectAt(0, 0, sides[0], sides[1]), c, confined, squares)
				wantShown(t, drawnPic(70, 70), rectAt(2, 6, sides[0], sides[1]), c, confined, squares, want)
			}
		}
	}
}

func TestTileBackOfOtherSides(t *testing.T) {
	ref := drawnPic(256, 256)
	sides := append(farNumbers(), -64, -8, -1, 0, 1, 4, 7, 9, 12, 15, 60, 63, 65, 68, 72, 80, 128, 256, 1<<32+8, 1<<62, math.MinInt+8, math.MaxInt-7)
	for _, side := range sides {
		for _, c := range withKeys(condsAt(0)) {
			for _, n := range []int{0, 1, 2, 8, 9, 64} {
				squares := tileSquares(n, 1, c)
				for _, confined := range []bool{false, true} {
					wantNotShown(t, ref, rectAt(0, 0, side, 8), c, confined, squares)
					wantNotShown(t, ref, rectAt(0, 0, 8, side), c, confined, squares)
					wantNotShown(t, ref, rectAt(8, 8, side, side), c, confined, squares)
				}
			}
		}
	}
	for wide := 0; wide <= 72; wide += 4 {
		squares := slices.Repeat([]impl.Square{{}}, wide/8)
		if wide%8 == 0 && wide >= 8 && wide <= 64 {
			wantShown(t, ref, rectAt(1, 2, wide, 8), exactAt(0), true, squares, cutBy(ref, rectAt(1, 2, wide, 8)))
			wantShown(t, ref, rectAt(1, 2, 8, wide), exactAt(0), true, squares, cutBy(ref, rectAt(1, 2, 8, wide)))
		} else {
			wantNotShown(t, ref, rectAt(1, 2, wide, 8), exactAt(0), true, squares)
			wantNotShown(t, ref, rectAt(1, 2, 8, wide), exactAt(0), true, squares)
		}
	}
}

func TestTileBackOfOtherPlaces(t *testing.T) {
	ref := drawnPic(256, 256)
	for _, c := range withKeys(condsAt(0)) {
		squares := tileSquares(2, 1, c)
		for _, n := range append(farNumbers(), -16, -8, -1, impl.MaxWide+1, impl.MaxWide+8, 1<<32, 1<<62, math.MinInt+8, math.MaxInt-15) {
			for _, other := range []int{0, 8, 256} {
				for _, confined := range []bool{false, true} {
					wantNotShown(t, ref, rectAt(n, other, 16, 8), c, confined, squares)
					wantNotShown(t, ref, rectAt(other, n, 16, 8), c, confined, squares)
				}
			}
		}
	}
	key := keyed(exactAt(0))
	squares := tileSquares(2, 1, key)
	want := shownBy(impl.Pic{}, rectAt(0, 0, 8, 16), key, false, squares)
	for _, left := range []int{0, 1, 240, 248, 249, 255, impl.MaxWide} {
		for _, top := range []int{0, 1, 240, 241, 255, impl.MaxWide} {
			for _, confined := range []bool{false, true} {
				wantShown(t, ref, rectAt(left, top, 8, 16), key, confined, squares, want)
			}
		}
	}
}

func TestATileThatIsNotWithinRef(t *testing.T) {
	for _, size := range [][2]int{{16, 16}, {23, 40}, {64, 64}, {7, 64}, {64, 7}, {256, 256}} {
		ref := drawnPic(size[0], size[1])
		for i, sides := range fewSides() {
			right, under := size[0]-sides[0], size[1]-sides[1]
			for _, left := range []int{0, 1, right - 1, right, right + 1, size[0] - 1, size[0], 256} {
				for _, top := range []int{0, 1, under - 1, under, under + 1, size[1] - 1, size[1], 256} {
					r := rectAt(left, top, sides[0], sides[1])
					squares := slices.Repeat([]impl.Square{{}}, countOf(r))
					if i%2 == 1 {
						squares = tileSquares(countOf(r), i, keyed(exactAt(0)))
					}
					for _, confined := range []bool{false, true} {
						if left >= 0 && top >= 0 && left <= right && top <= under {
							wantShown(t, ref, r, exactAt(0), confined, squares, shownBy(ref, r, exactAt(0), confined, squares))
						} else {
							wantNotShown(t, ref, r, exactAt(0), confined, squares)
						}
					}
				}
			}
		}
	}
}

func TestTileBackOfOtherNumbersOfSquares(t *testing.T) {
	ref := drawnPic(64, 64)
	for _, sides := range fewSides() {
		r := rectAt(0, 0, sides[0], sides[1])
		count := countOf(r)
		for _, c := range withKeys(condsAt(6)) {
			for _, confined := range []bool{false, true} {
				for _, n := range []int{0, 1, count - 1, count, count + 1, 2 * count, 64, 65, 200} {
					squares := tileSquares(n, 3, c)
					if n == count {
						wantShown(t, ref, r, c, confined, squares, shownBy(ref, r, c, confined, squares))
					} else {
						wantNotShown(t, ref, r, c, confined, squares)
					}
				}
				wantNotShown(t, ref, r, c, confined, nil)
			}
		}
	}
}

func TestTileBackWithAWrongSquare(t *testing.T) {
	ref, r := drawnPic(64, 64), rectAt(8, 0, 16, 24)
	for i, wrong := range wrongSquares() {
		for _, c := range withKeys(condsAt(i % 41)) {
			wantNotShown(t, ref, r, c, i%2 == 0, with(tileSquares(6, i, c), i%6, wrong))
			wantNotShown(t, ref, rectAt(i%50, 3, 8, 8), c, i%3 == 0, []impl.Square{wrong})
		}
	}
	for _, c := range condsAt(6) {
		for place := range 64 {
			for _, q := range []impl.Square{{}, moved(0, 0, allAlike(64, 0)), moved(2, -1, upTo(64))} {
				squares := with(tileSquares(64, 1, keyed(c)), place, q)
				wantNotShown(t, ref, wholeOf(ref), keyed(c), place%2 == 0, squares)
			}
			squares := tileSquares(64, place, c)
			wantNotShown(t, ref, wholeOf(ref), c, place%2 == 0, with(squares, place, impl.Square{Kind: 3}))
			wantNotShown(t, ref, wholeOf(ref), c, place%2 == 0, with(squares, place, guessed(4, allAlike(64, 0))))
		}
	}
	for _, c := range wrongConds() {
		for _, squares := range [][]impl.Square{tileSquares(6, 1, impl.Cond{}), tileSquares(6, 1, keyed(c)), slices.Repeat([]impl.Square{{}}, 6)} {
			wantNotShown(t, ref, r, c, false, squares)
			wantNotShown(t, ref, r, c, true, squares)
		}
	}
}

func TestTileBackOfWrongPictures(t *testing.T) {
	for i, wrong := range wrongPics() {
		for _, c := range condsAt(i % 41) {
			for _, confined := range []bool{false, true} {
				wantNotShown(t, wrong, rectAt(0, 0, 8, 8), c, confined, []impl.Square{{}})
				wantNotShown(t, wrong, rectAt(0, 0, 16, 8), c, confined, tileSquares(2, i, c))
				wantNotShown(t, wrong, rectAt(0, 0, 8, 8), c, confined, []impl.Square{guessed(0, allAlike(64, 0))})
			}
		}
	}
}

// withRoomBehind has other squares behind its end, and levels with other numbers behind theirs.
func withRoomBehind(squares []impl.Square) []impl.Square {
	all := make([]impl.Square, 0, len(squares)+3)
	for _, q := range append(slices.Clone(squares), impl.Square{}, guessed(1, upTo(64)), moved(2, 3, upTo(64))) {
		if q.Levels != nil {
			q.Levels = withRoom(q.Levels)
		}
		all = append(all, q)
	}
	return all[:len(squares)]
}

// deepOf has copies of all that is in the squares and in the room behind them.
func deepOf(squares []impl.Square) []impl.Square {
	all := slices.Clone(squares[:cap(squares)])
	for i := range all {
		all[i].Levels = slices.Clone(allOf(all[i].Levels))
	}
	return all
}

func TestTilesLeaveTheirSquares(t *testing.T) {
	now, ref := drawnPic(16, 16), drawnPic(64, 64)
	for _, c := range withKeys(condsAt(0)) {
		for _, squares := range [][]impl.Square{tileSquares(4, 0, c), tileSquares(64, 0, c), tileSquares(65, 0, c), with(tileSquares(4, 0, c), 2, guessed(4, upTo(64))), with(tileSquares(4, 0, c), 3, moved(17, 1, upTo(64)))} {
			given := withRoomBehind(squares)
			before := deepOf(given)
			tileRow, _ := impl.TileRow(given, c)
			shown, _ := impl.TileBack(ref, rectAt(8, 8, 16, 16), c, true, given)
			dots, _ := impl.SquareDots(now, ref, 8, 0, c, 8, 0, given[1])
			if !sameSquares(deepOf(given), before) {
				t.Fatalf("these were changed: %s", shownSquares(squares))
			}
			// What is answered is not changed, when the squares are written over.
			wantRow, wantPic, want := strings.Clone(tileRow), impl.Pic{Wide: shown.Wide, High: shown.High, Dots: strings.Clone(shown.Dots)}, slices.Clone(dots)
			for _, q := range given[:cap(given)] {
				for place := range allOf(q.Levels) {
					allOf(q.Levels)[place] = 1
				}
			}
			if tileRow != wantRow || shown != wantPic || !slices.Equal(dots, want) {
				t.Fatalf("an answer hangs behind the call on %s", shownSquares(squares))
			}
		}
	}
}

func TestTilesShareNoMemory(t *testing.T) {
	for _, ref := range []impl.Pic{drawnPic(8, 8), drawnPic(64, 64)} {
		before := strings.Clone(ref.Dots)
		for _, q := range []impl.Square{{}, moved(0, 0, allAlike(64, 0)), guessed(0, allAlike(64, 0))} {
			for _, confined := range []bool{false, true} {
				shown, ok := impl.TileBack(ref, rectAt(0, 0, 8, 8), exactAt(0), confined, []impl.Square{q})
				if !ok || sharesMemory(shown.Dots, ref.Dots) {
					t.Fatalf("%s, %v shares its dots with %s", shownPic(shown), ok, shownPic(ref))
				}
			}
			first, _ := impl.SquareDots(ref, ref, 0, 0, exactAt(0), 0, 0, q)
			second, _ := impl.SquareDots(ref, ref, 0, 0, exactAt(0), 0, 0, q)
			for place := range allOf(first) {
				allOf(first)[place] = -9
			}
			if want := dotsBy(ref, ref, 0, 0, exactAt(0), 0, 0, q); !slices.Equal(second, want) {
				t.Fatalf("dots that were written over changed others to %v", second)
			}
		}
		if ref.Dots != before {
			t.Fatalf("the dots of %s were changed", shownPic(ref))
		}
	}
}

func TestReadTileAnswersNewMemory(t *testing.T) {
	for _, c := range withKeys(condsAt(0)) {
		squares := tileSquares(9, 0, c)
		row := tileSigns(squares, c)
		for place := range squares {
			first, _ := impl.ReadTile(row, 0, 9, c)
			second, _ := impl.ReadTile(row, 0, 9, c)
			for i := range allOf(first[place].Levels) {
				allOf(first[place].Levels)[i] = -9
			}
			first[place] = impl.Square{Kind: 7}
			if !sameSquares(first, with(squares, place, impl.Square{Kind: 7})) {
				t.Fatalf("the levels of square %d are those of another one, too", place)
			}
			if !sameSquares(second, squares) {
				t.Fatalf("squares that were written over changed others to %s", shownSquares(second))
			}
		}
		wantTileAt(t, row, 0, 9, c, squares)
	}
}

// Each call is made again behind others, so that what was kept from them would be seen.
func TestTilesKeepNothing(t *testing.T) {
	ref := drawnPic(48, 48)
	for range 2 {
		for i, c := range withKeys(append(condsAt(6), condsAt(0)...)) {
			r, squares := rectAt(i, 2*i, 16, 24), tileSquares(6, i, c)
			wantTileRow(t, squares, c, tileSigns(squares, c))
			wantTileAt(t, tileSigns(squares, c), 0, 6, c, squares)
			wantNoTileAt(t, tileSigns(squares, c)+"0", 0, 6, c)
			wantNoTileRow(t, with(squares, 5, impl.Square{Kind: -1}), c)
			wantNotShown(t, ref, r, c, true, with(squares, 5, impl.Square{Kind: -1}))
			wantShown(t, ref, r, c, i%2 == 0, squares, shownBy(ref, r, c, i%2 == 0, squares))
			wantDots(t, ref, ref, i, i, c, 8, 16, squares[4], dotsBy(ref, ref, i, i, c, 8, 16, squares[4]))
		}
	}
}
