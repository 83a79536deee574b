package tests

import (
	"math"
	"slices"
	"testing"

	"loop.example/g00960/impl"
)

// farNumbers are those that no tile and no dot of a picture has.
func farNumbers() []int {
	return []int{
		math.MinInt, math.MinInt + 1, math.MinInt + 8, -1 << 32, -1 << 31, -100000, -257, -256, -64, -9, -8,
		257, 1000, 100000, 1 << 31, 1 << 32, 1<<32 + 1, 1 << 61, math.MaxInt - 8, math.MaxInt - 1, math.MaxInt,
	}
}

func gridSeqs() []impl.Seq {
	return append(someSeqs(),
		seqOf(3, 3, []int{1, 1, 1, 1}, []int{1, 1, 1, 1}),
		seqOf(3, 8, []int{4, 3, 2, 1}, []int{5, 8, 1, 6}),
		seqOf(3, 6, []int{8, 8, 8, 8}, []int{8}),
		seqOf(3, 6, []int{8}, []int{8, 8, 8, 8}),
		seqOf(2, 4, []int{8}, []int{8}),
		seqOf(2, 4, []int{1, 8, 2}, []int{3, 1}),
		seqOf(1, 5, []int{2, 1}, []int{1, 2}),
		seqOf(1, 5, []int{1, 2, 1, 3}, []int{2}),
		seqOf(1, 5, []int{2}, []int{1, 2, 1, 3}),
	)
}

// wrongSeqs are not right each for one reason.
func wrongSeqs() []impl.Seq {
	seqs := []impl.Seq{
		{},
		seqOf(1, 3, []int{8, 8, 1}, []int{1}), // 17 squares
		seqOf(2, 3, []int{8, 5}, []int{5}),    // 65
		seqOf(3, 3, []int{8, 5}, []int{8, 8, 4}),
		seqOf(3, 3, []int{8, 8, 8, 8}, []int{8, 8, 8, 8}),
	}
	for _, level := range []int{math.MinInt, -3, -1, 0, 4, 5, 16, math.MaxInt} {
		seqs = append(seqs, seqOf(level, 3, []int{2, 1}, []int{1, 2}))
	}
	for _, bits := range []int{math.MinInt, -3, 0, 1, 2, 9, 10, 16, math.MaxInt} {
		seqs = append(seqs, seqOf(1, bits, []int{2, 1}, []int{1, 2}))
	}
	for _, list := range wrongLists() {
		seqs = append(seqs, seqOf(3, 3, list, []int{1, 2}), seqOf(3, 3, []int{2, 1}, list), seqOf(3, 3, list, list))
	}
	return seqs
}

// rectOf sums up what stands ahead of the tile.
func rectOf(s impl.Seq, tile int) impl.Rect {
	col, row := tile%len(s.Cols), tile/len(s.Cols)
	return impl.Rect{Left: 8 * sumOf(s.Cols[:col]), Top: 8 * sumOf(s.Rows[:row]), Wide: 8 * s.Cols[col], High: 8 * s.Rows[row]}
}

func wantNoTile(t *testing.T, s impl.Seq, tile int) {
	t.Helper()
	if r, ok := impl.TileRect(s, tile); ok || r != (impl.Rect{}) {
		t.Errorf("TileRect(%v, %d): %v, %v; want a refusal", s, tile, r, ok)
	}
	if got := impl.TileSquares(s, tile); got != 0 {
		t.Errorf("TileSquares(%v, %d): %d; want 0", s, tile, got)
	}
}

func wantNoDot(t *testing.T, s impl.Seq, x, y int) {
	t.Helper()
	if got := impl.TileAt(s, x, y); got != -1 {
		t.Errorf("TileAt(%v, %d, %d): %d; want -1", s, x, y, got)
	}
}

func TestGridOfOneSet(t *testing.T) {
	s := seqOf(2, 5, []int{3, 1, 2}, []int{1, 4})
	if wide, high := impl.SizeOf(s); wide != 48 || high != 40 {
		t.Errorf("SizeOf: %d, %d", wide, high)
	}
	if got := impl.TilesOf(s); got != 6 {
		t.Errorf("TilesOf: %d", got)
	}
	for tile, want := range []impl.Rect{
		{Left: 0, Top: 0, Wide: 24, High: 8}, {Left: 24, Top: 0, Wide: 8, High: 8}, {Left: 32, Top: 0, Wide: 16, High: 8},
		{Left: 0, Top: 8, Wide: 24, High: 32}, {Left: 24, Top: 8, Wide: 8, High: 32}, {Left: 32, Top: 8, Wide: 16, High: 32},
	} {
		if got, ok := impl.TileRect(s, tile); !ok || got != want {
			t.Errorf("TileRect(%d): %v, %v; want %v", tile, got, ok, want)
		}
	}
	for tile, want := range []int{3, 1, 2, 12, 4, 8} {
		if got := impl.TileSquares(s, tile); got != want {
			t.Errorf("TileSquares(%d): %d; want %d", tile, got, want)
		}
	}
	for _, c := range []struct{ x, y, want int }{
		{0, 0, 0}, {23, 7, 0}, {24, 0, 1}, {31, 7, 1}, {32, 0, 2}, {47, 7, 2},
		{0, 8, 3}, {23, 39, 3}, {24, 8, 4}, {31, 39, 4}, {32, 8, 5}, {47, 39, 5},
		{-1, 0, -1}, {48, 0, -1}, {0, -1, -1}, {0, 40, -1}, {48, 40, -1}, {-1, -1, -1}, {39, 47, -1},
	} {
		if got := impl.TileAt(s, c.x, c.y); got != c.want {
			t.Errorf("TileAt(%d, %d): %d; want %d", c.x, c.y, got, c.want)
		}
	}
}

func TestSizeAndTilesOfEachCut(t *testing.T) {
	lists := everyList([]int{1, 3, 8}, impl.MaxCols)
	for i, cols := range lists {
		for k, rows := range lists {
			for level := 0; level <= 4; level++ {
				s := seqOf(level, 3+(i+k)%6, cols, rows)
				wide, high, tiles := 8*sumOf(cols), 8*sumOf(rows), len(cols)*len(rows)
				if sumOf(cols)*sumOf(rows) > []int{0, 16, 64, 256, 0}[level] {
					wide, high, tiles = 0, 0, 0
				}
				if w, h := impl.SizeOf(s); w != wide || h != high {
					t.Fatalf("SizeOf(%v): %d, %d; want %d, %d", s, w, h, wide, high)
				}
				if got := impl.TilesOf(s); got != tiles {
					t.Fatalf("TilesOf(%v): %d; want %d", s, got, tiles)
				}
			}
		}
	}
}

// checkTiles holds the rect of each tile to the lists, and all of them together to the whole.
func checkTiles(t *testing.T, s impl.Seq) {
	t.Helper()
	tiles := len(s.Cols) * len(s.Rows)
	squares := 0
	for tile := range tiles {
		want := rectOf(s, tile)
		r, ok := impl.TileRect(s, tile)
		if !ok || r != want {
			t.Fatalf("TileRect(%v, %d): %v, %v; want %v", s, tile, r, ok, want)
		}
		got := impl.TileSquares(s, tile)
		if got != want.Wide*want.High/64 {
			t.Fatalf("TileSquares(%v, %d): %d; want %d", s, tile, got, want.Wide*want.High/64)
		}
		squares += got
		for _, x := range []int{r.Left, r.Left + 1, r.Left + r.Wide - 1} {
			for _, y := range []int{r.Top, r.Top + 1, r.Top + r.High - 1} {
				if at := impl.TileAt(s, x, y); at != tile {
					t.Fatalf("TileAt(%v, %d, %d): %d; want %d", s, x, y, at, tile)
				}
			}
		}
	}
	if squares != impl.SquaresOf(s) || squares != sumOf(s.Cols)*sumOf(s.Rows) {
		t.Fatalf("%v: the tiles have %d squares, SquaresOf %d", s, squares, impl.SquaresOf(s))
	}
	for _, tile := range append(farNumbers(), -1, -2, -tiles, tiles, tiles+1, tiles+len(s.Cols), 2*tiles) {
		wantNoTile(t, s, tile)
	}
}

func TestTilesOfEachCut(t *testing.T) {
	for _, s := range gridSeqs() {
		checkTiles(t, s)
	}
	lists := everyList([]int{1, 2, 5}, impl.MaxCols)
	for i, cols := range lists {
		for k, rows := range lists {
			if sumOf(cols)*sumOf(rows) <= 256 {
				checkTiles(t, seqOf(3, 3+(i+k)%6, cols, rows))
			}
		}
	}
	for _, list := range everyList([]int{1, 2, 3, 4, 5, 6, 7, 8}, impl.MaxCols) {
		checkTiles(t, seqOf(3, 8, list, []int{2, 1, 3}))
		checkTiles(t, seqOf(3, 3, []int{1, 3, 2}, list))
	}
}

// holders are the tiles whose rects have the dot.
func holders(rects []impl.Rect, x, y int) []int {
	tiles := []int{}
	for tile, r := range rects {
		if x >= r.Left && x < r.Left+r.Wide && y >= r.Top && y < r.Top+r.High {
			tiles = append(tiles, tile)
		}
	}
	return tiles
}

func rectsOf(s impl.Seq) []impl.Rect {
	rects := []impl.Rect{}
	for tile := range impl.TilesOf(s) {
		r, _ := impl.TileRect(s, tile)
		rects = append(rects, r)
	}
	return rects
}

func TestEachDotIsInOneTile(t *testing.T) {
	for _, s := range gridSeqs() {
		wide, high := impl.SizeOf(s)
		if wide != 8*sumOf(s.Cols) || high != 8*sumOf(s.Rows) {
			t.Fatalf("SizeOf(%v): %d, %d", s, wide, high)
		}
		rects := rectsOf(s)
		for y := -9; y < high+9; y++ {
			for x := -9; x < wide+9; x++ {
				tiles := holders(rects, x, y)
				inside := x >= 0 && x < wide && y >= 0 && y < high
				if inside != (len(tiles) == 1) || !inside && len(tiles) != 0 {
					t.Fatalf("%v: the dot %d, %d is in the tiles %v", s, x, y, tiles)
				}
				if !inside {
					wantNoDot(t, s, x, y)
				} else if got := impl.TileAt(s, x, y); got != tiles[0] {
					t.Fatalf("TileAt(%v, %d, %d): %d; want %d", s, x, y, got, tiles[0])
				}
			}
		}
	}
}

func TestDotsFarOutside(t *testing.T) {
	for _, s := range gridSeqs() {
		wide, high := impl.SizeOf(s)
		for _, far := range append(farNumbers(), -1) {
			for _, near := range []int{0, 1, 7} {
				wantNoDot(t, s, far, near)
				wantNoDot(t, s, near, far)
			}
			wantNoDot(t, s, far, high-1)
			wantNoDot(t, s, wide-1, far)
			wantNoDot(t, s, far, far)
			wantNoDot(t, s, far, high)
			wantNoDot(t, s, wide, far)
		}
		// The dot of one side may not stand in for that of the other.
		wantNoDot(t, s, wide, 0)
		wantNoDot(t, s, 0, high)
		wantNoDot(t, s, wide, high)
		wantNoDot(t, s, wide-1, high)
		wantNoDot(t, s, wide, high-1)
	}
}

func TestGridOfASetThatIsNotRight(t *testing.T) {
	for _, s := range wrongSeqs() {
		if wide, high := impl.SizeOf(s); wide != 0 || high != 0 {
			t.Errorf("SizeOf(%v): %d, %d; want 0, 0", s, wide, high)
		}
		if got := impl.TilesOf(s); got != 0 {
			t.Errorf("TilesOf(%v): %d; want 0", s, got)
		}
		for _, n := range append(farNumbers(), -2, -1, 0, 1, 2, 3, 4, 15, 16) {
			wantNoTile(t, s, n)
			wantNoDot(t, s, n, 0)
			wantNoDot(t, s, 0, n)
			wantNoDot(t, s, n, n)
		}
	}
}

func TestLevelForAtTheLimitOfEachLevel(t *testing.T) {
	for _, c := range []struct {
		cols, rows []int
		want       int
	}{
		{[]int{1}, []int{1}, 1},
		{[]int{5}, []int{3}, 1},
		{[]int{4}, []int{4}, 1},
		{[]int{1}, []int{8, 8}, 1},
		{[]int{1, 1, 1, 1}, []int{1, 1, 1, 1}, 1},
		{[]int{1}, []int{8, 8, 1}, 2}, // 17
		{[]int{8, 5, 4}, []int{1}, 2},
		{[]int{8}, []int{3}, 2},
		{[]int{7}, []int{8, 1}, 2},
		{[]int{8}, []int{8}, 2},
		{[]int{2, 2}, []int{4, 4, 4, 4}, 2},
		{[]int{8, 5}, []int{5}, 3}, // 65
		{[]int{3, 2}, []int{8, 5}, 3},
		{[]int{8, 8, 1}, []int{8, 7}, 3},
		{[]int{8, 8}, []int{8, 8}, 3},
		{[]int{8}, []int{8, 8, 8, 8}, 3},
		{[]int{4, 4, 4, 4}, []int{4, 4, 4, 4}, 3},
		{[]int{8, 5}, []int{8, 8, 4}, 0}, // 260 is the least above 256 that two sides make
		{[]int{8, 8, 4}, []int{8, 5}, 0},
		{[]int{8, 8, 1}, []int{8, 8}, 0},
		{[]int{8, 8, 8, 8}, []int{8, 8, 8, 8}, 0},
	} {
		if got := impl.LevelFor(c.cols, c.rows); got != c.want {
			t.Errorf("LevelFor(%v, %v): %d; want %d", c.cols, c.rows, got, c.want)
		}
	}
}

// checkLevel asks the set itself: right at its level and at each above it, at none below.
func checkLevel(t *testing.T, cols, rows []int) {
	t.Helper()
	squares := sumOf(cols) * sumOf(rows)
	want := 0
	for level, most := range []int{256, 64, 16} {
		if squares <= most {
			want = 3 - level
		}
	}
	got := impl.LevelFor(cols, rows)
	if got != want {
		t.Fatalf("LevelFor(%v, %v): %d; want %d", cols, rows, got, want)
	}
	for level := -1; level <= 5; level++ {
		right := got != 0 && level >= got && level <= 3
		for _, bits := range []int{3, 8} {
			if impl.SeqOk(seqOf(level, bits, cols, rows)) != right {
				t.Fatalf("LevelFor(%v, %v): %d; at level %d right is %v", cols, rows, got, level, !right)
			}
		}
	}
}

func TestLevelForEachCut(t *testing.T) {
	lists := everyList([]int{1, 3, 8}, impl.MaxCols)
	for _, cols := range lists {
		for _, rows := range lists {
			checkLevel(t, cols, rows)
		}
	}
	for _, list := range everyList([]int{1, 2, 3, 4, 5, 6, 7, 8}, impl.MaxCols) {
		checkLevel(t, list, []int{8, 5})
		checkLevel(t, []int{2}, list)
	}
}

func TestLevelForListsThatCutNoSide(t *testing.T) {
	for _, wrong := range wrongLists() {
		for _, other := range [][]int{nil, {1}, {2, 1}, {8, 8}, {-1}, wrong} {
			if got := impl.LevelFor(wrong, other); got != 0 {
				t.Errorf("LevelFor(%v, %v): %d; want 0", wrong, other, got)
			}
			if got := impl.LevelFor(other, wrong); got != 0 {
				t.Errorf("LevelFor(%v, %v): %d; want 0", other, wrong, got)
			}
		}
	}
}

func TestGridLeavesItsLists(t *testing.T) {
	room := []int{2, 1, 3, 5, 77, 78, 79}
	before := slices.Clone(room)
	for _, s := range []impl.Seq{
		seqOf(3, 4, room[:2], room[2:3]), seqOf(3, 4, room[:1], room[:1]), seqOf(1, 9, room[:2], room[2:4]), seqOf(3, 4, room, room[:0]),
	} {
		impl.SizeOf(s)
		impl.TilesOf(s)
		impl.LevelFor(s.Cols, s.Rows)
		for n := -1; n < 20; n++ {
			impl.TileRect(s, n)
			impl.TileSquares(s, n)
			impl.TileAt(s, n, n)
		}
		if !slices.Equal(room, before) {
			t.Fatalf("a list was written into: %v", room)
		}
	}
}

// gridNumbers are all the answers of the chapter of one set.
func gridNumbers(s impl.Seq) []int {
	wide, high := impl.SizeOf(s)
	numbers := []int{wide, high, impl.TilesOf(s), impl.LevelFor(s.Cols, s.Rows)}
	for tile := -1; tile <= 16; tile++ {
		r, _ := impl.TileRect(s, tile)
		numbers = append(numbers, r.Left, r.Top, r.Wide, r.High, impl.TileSquares(s, tile))
	}
	for dot := -1; dot <= 64; dot++ {
		numbers = append(numbers, impl.TileAt(s, dot, 0), impl.TileAt(s, 0, dot))
	}
	return numbers
}

func TestALaterChangeOfAListChangesNoOtherGrid(t *testing.T) {
	cols, rows := []int{2, 1}, []int{3, 1}
	first := gridNumbers(seqOf(1, 4, cols, rows))
	cols[0], rows[1] = 5, 4
	if !slices.Equal(gridNumbers(seqOf(1, 4, []int{2, 1}, []int{3, 1})), first) {
		t.Error("the answers hang on a list of an earlier call")
	}
	if !slices.Equal(gridNumbers(seqOf(3, 4, cols, rows)), gridNumbers(seqOf(3, 4, []int{5, 1}, []int{3, 4}))) {
		t.Error("a changed list is not seen as it is")
	}
	if impl.LevelFor(cols, rows) != 2 || impl.LevelFor([]int{2, 1}, []int{3, 1}) != 1 {
		t.Error("LevelFor hangs on a list of an earlier call")
	}
}
