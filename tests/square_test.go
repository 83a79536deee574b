package tests

import (
	"math"
	"slices"
	"strings"
	"testing"

	"loop.example/g00960/impl"
)

func moved(dx, dy int, levels []int) impl.Square {
	return impl.Square{Kind: impl.SqMove, Dx: dx, Dy: dy, Levels: levels}
}

func guessed(mode int, levels []int) impl.Square {
	return impl.Square{Kind: impl.SqGuess, Mode: mode, Levels: levels}
}

func sameSquare(a, b impl.Square) bool {
	return a.Kind == b.Kind && a.Mode == b.Mode && a.Dx == b.Dx && a.Dy == b.Dy && slices.Equal(a.Levels, b.Levels)
}

// squareSigns has the parts of a right square, each written as the chapter names it.
func squareSigns(q impl.Square, c impl.Cond) string {
	kind := ueRowOf(q.Kind)
	if c.Key {
		kind = ""
	}
	switch q.Kind {
	case 0:
		return kind
	case 1:
		return kind + seRowOf(q.Dx) + seRowOf(q.Dy) + levelsSigns(q.Levels, c)
	}
	return kind + ueRowOf(q.Mode) + levelsSigns(q.Levels, c)
}

// withKeys are the conditions, each without Key and with it.
func withKeys(conds []impl.Cond) []impl.Cond {
	both := []impl.Cond{}
	for _, c := range conds {
		both = append(both, c, keyed(c))
	}
	return both
}

// hasRow is whether Key lets a right square be.
func hasRow(q impl.Square, c impl.Cond) bool { return !c.Key || q.Kind == 2 }

func moves() []impl.Square {
	squares := []impl.Square{}
	levels := sparse(33, 64, 300, 9)
	for n := -16; n <= 16; n++ {
		squares = append(squares, moved(n, 0, allAlike(64, 0)), moved(0, n, levels[n+16]), moved(n, -n, levels[n+16]), moved(3, n, upTo(64)))
	}
	return append(squares, moved(16, 16, allAlike(64, impl.MaxLevel)), moved(-16, -16, allAlike(64, -impl.MaxLevel)), moved(16, -16, levels[0]))
}

func guesses() []impl.Square {
	squares := []impl.Square{}
	for mode := range 4 {
		for _, levels := range shortLevelLists() {
			squares = append(squares, guessed(mode, levels))
		}
	}
	return squares
}

func rightSquares() []impl.Square {
	return append(append(moves(), guesses()...), impl.Square{}, impl.Square{Levels: []int{}})
}

// someSquares are one or two of each kind, for what goes through many rows.
func someSquares() []impl.Square {
	levels := sparse(2, 64, 40, 7)
	return []impl.Square{
		{}, moved(0, 0, allAlike(64, 0)), moved(16, -16, levels[0]), moved(-5, 7, upTo(64)),
		guessed(0, allAlike(64, 0)), guessed(1, alone(64, 63, -impl.MaxLevel)), guessed(2, levels[1]), guessed(3, alone(64, 0, 1)),
	}
}

// wrongLevels are no 64 levels, in their number or in one of them.
func wrongLevels() [][]int {
	lists := [][]int{nil, {}, allAlike(64, impl.MaxLevel+1)}
	for _, size := range []int{1, 16, 32, 48, 63, 65, 80, 128} {
		lists = append(lists, allAlike(size, 0), allAlike(size, 1))
	}
	for place := range 64 {
		lists = append(lists, alone(64, place, impl.MaxLevel+1), alone(64, place, -impl.MaxLevel-1))
	}
	for i, n := range beyond(impl.MaxLevel) {
		lists = append(lists, alone(64, 3*i, n))
	}
	return lists
}

// noughtNots are numbers where a 0 belongs; some of them are 0 in the lower bits of an int.
func noughtNots() []int {
	return append(farNumbers(), 1, -1, 2, 3, 16, -16, 17, 256, 1<<16, math.MinInt)
}

func wrongSquares() []impl.Square {
	squares := []impl.Square{}
	zeros, levels := allAlike(64, 0), upTo(64)
	for _, kind := range append(farNumbers(), -1, -2, 3, 4, 5, 7, 256, 257, 258, 1<<32+2, math.MinInt+1, math.MinInt+2) {
		squares = append(squares, impl.Square{Kind: kind}, impl.Square{Kind: kind, Levels: levels}, impl.Square{Kind: kind, Mode: 1, Levels: zeros}, impl.Square{Kind: kind, Dx: 1, Levels: levels})
	}
	for _, n := range noughtNots() {
		squares = append(squares, impl.Square{Mode: n}, impl.Square{Dx: n}, impl.Square{Dy: n})
		squares = append(squares, impl.Square{Kind: 1, Mode: n, Levels: levels}, impl.Square{Kind: 1, Mode: n, Dx: 2, Dy: 3, Levels: zeros})
		squares = append(squares, impl.Square{Kind: 2, Dx: n, Levels: levels}, impl.Square{Kind: 2, Mode: 1, Dy: n, Levels: zeros})
	}
	for _, size := range []int{1, 16, 63, 64, 65} {
		squares = append(squares, impl.Square{Levels: allAlike(size, 0)}, impl.Square{Levels: allAlike(size, 1)})
	}
	for _, n := range append(beyond(16), 32, -32, 1<<32, math.MinInt+16) {
		squares = append(squares, moved(n, 0, zeros), moved(0, n, zeros), moved(n, n, levels), moved(n, -n, levels), moved(1, n, levels), moved(n, 16, zeros))
	}
	for _, mode := range append(farNumbers(), -1, -2, -3, -4, 4, 5, 6, 7, 8, 256, 1<<32+3, math.MinInt+3) {
		squares = append(squares, guessed(mode, zeros), guessed(mode, levels))
	}
	for i, list := range wrongLevels() {
		squares = append(squares, moved(0, 0, list), moved(1, -1, list), guessed(i%4, list))
	}
	return squares
}

func wantSquareRow(t *testing.T, q impl.Square, c impl.Cond, want string) {
	t.Helper()
	if got, ok := impl.SquareRow(q, c); !ok || got != want {
		t.Fatalf("SquareRow(%+v, %+v): %q, %v; want %q", q, c, got, ok, want)
	}
	if size := impl.SquareSize(q, c); size != len(want) {
		t.Fatalf("SquareSize(%+v, %+v): %d; want %d", q, c, size, len(want))
	}
}

func wantNoSquareRow(t *testing.T, q impl.Square, c impl.Cond) {
	t.Helper()
	if got, ok := impl.SquareRow(q, c); ok || got != "" {
		t.Fatalf("SquareRow(%+v, %+v): %.60q, %v; want a refusal", q, c, got, ok)
	}
	if size := impl.SquareSize(q, c); size != 0 {
		t.Fatalf("SquareSize(%+v, %+v): %d; want 0", q, c, size)
	}
}

func wantSquareAt(t *testing.T, row string, at int, c impl.Cond, want impl.Square, wantBehind int) {
	t.Helper()
	if got, behind, ok := impl.ReadSquare(row, at, c); !ok || behind != wantBehind || !sameSquare(got, want) {
		t.Fatalf("ReadSquare(%.60q, %d, %+v): %+v, %d, %v; want %+v, %d", row, at, c, got, behind, ok, want, wantBehind)
	}
}

func wantNoSquareAt(t *testing.T, row string, at int, c impl.Cond) {
	t.Helper()
	if got, behind, ok := impl.ReadSquare(row, at, c); ok || behind != 0 || !sameSquare(got, impl.Square{}) {
		t.Fatalf("ReadSquare(%.60q, %d, %+v): %+v, %d, %v; want a refusal", row, at, c, got, behind, ok)
	}
}

func TestSquareLimits(t *testing.T) {
	if impl.SqSkip != 0 || impl.SqMove != 1 || impl.SqGuess != 2 || impl.MaxMove != 16 {
		t.Error("a constant is not the chapter's")
	}
}

func TestSquareOk(t *testing.T) {
	for _, q := range rightSquares() {
		if !impl.SquareOk(q) {
			t.Fatalf("%+v should be right", q)
		}
	}
	for _, q := range wrongSquares() {
		if impl.SquareOk(q) {
			t.Fatalf("%+v should not be right", q)
		}
	}
}

func TestSquareOkOfEachMoveModeAndLevel(t *testing.T) {
	for dx := -18; dx <= 18; dx++ {
		for dy := -18; dy <= 18; dy++ {
			right := dx >= -16 && dx <= 16 && dy >= -16 && dy <= 16
			if impl.SquareOk(moved(dx, dy, allAlike(64, 0))) != right {
				t.Errorf("a move by %d and %d", dx, dy)
			}
		}
	}
	for mode := -6; mode <= 9; mode++ {
		if impl.SquareOk(guessed(mode, allAlike(64, 0))) != (mode >= 0 && mode <= 3) {
			t.Errorf("the mode %d", mode)
		}
	}
	for _, n := range []int{impl.MaxLevel, -impl.MaxLevel} {
		for place := range 64 {
			for _, q := range []impl.Square{moved(0, 0, alone(64, place, n)), guessed(0, alone(64, place, n))} {
				if !impl.SquareOk(q) {
					t.Errorf("a level %d at %d", n, place)
				}
			}
		}
	}
}

func TestSquareRowByHand(t *testing.T) {
	zeros := allAlike(64, 0)
	for _, c := range []impl.Cond{largeAt(0), exactAt(0), largeAt(40), exactAt(40)} {
		wantSquareRow(t, impl.Square{}, c, "1")
		wantSquareRow(t, moved(0, 0, zeros), c, "010"+"1"+"1"+"1")
		wantSquareRow(t, moved(2, -3, zeros), c, "010"+"00100"+"00111"+"1")
		wantSquareRow(t, moved(16, -16, zeros), c, "010"+"00000100000"+"00000100001"+"1")
		wantSquareRow(t, moved(-16, 16, alone(64, 0, 1)), c, "010"+"00000100001"+"00000100000"+"010"+"1"+"010")
		for mode, signs := range []string{"1", "010", "011", "00100"} {
			wantSquareRow(t, guessed(mode, zeros), c, "011"+signs+"1")
			wantSquareRow(t, guessed(mode, zeros), keyed(c), signs+"1")
			wantSquareRow(t, guessed(mode, alone(64, 1, -1)), keyed(c), signs+"010"+"010"+"011")
		}
	}
	for _, c := range []impl.Cond{smallAt(0), smallAt(40)} {
		wantSquareRow(t, impl.Square{}, c, "1")
		wantSquareRow(t, moved(1, -1, zeros), c, "010"+"010"+"011"+"1111")
		wantSquareRow(t, guessed(3, alone(64, 16, 1)), c, "011"+"00100"+"1"+"010"+"1"+"010"+"11")
		wantSquareRow(t, guessed(3, alone(64, 16, 1)), keyed(c), "00100"+"1"+"010"+"1"+"010"+"11")
	}
}

func checkSquareRow(t *testing.T, q impl.Square, c impl.Cond) {
	t.Helper()
	if hasRow(q, c) {
		wantSquareRow(t, q, c, squareSigns(q, c))
	} else {
		wantNoSquareRow(t, q, c)
	}
}

func TestSquareRowIsWhatTheChapterTells(t *testing.T) {
	for _, c := range withKeys(someConds()) {
		for _, q := range rightSquares() {
			checkSquareRow(t, q, c)
		}
	}
	for _, c := range withKeys(rightConds()) {
		for _, q := range someSquares() {
			checkSquareRow(t, q, c)
		}
	}
}

func TestWrongSquaresHaveNoRow(t *testing.T) {
	for _, q := range wrongSquares() {
		for _, c := range withKeys(append(condsAt(0), condsAt(impl.MaxQp)...)) {
			wantNoSquareRow(t, q, c)
		}
	}
}

func TestNoSquareOfAWrongCond(t *testing.T) {
	for _, c := range wrongConds() {
		for _, q := range append(someSquares(), impl.Square{Kind: 3}, moved(17, 0, allAlike(64, 0))) {
			wantNoSquareRow(t, q, c)
		}
		for _, row := range []string{"", "1", "1111", strings.Repeat("1", 64), squareSigns(moved(1, 2, upTo(64)), smallAt(0)), squareSigns(guessed(3, upTo(64)), keyed(largeAt(0)))} {
			wantNoSquareAt(t, row, 0, c)
			wantNoSquareAt(t, row, len(row), c)
		}
	}
}

// Each row stands amid other signs, none of which may be taken for its own.
func TestSquaresComeBackFromTheirRows(t *testing.T) {
	for _, c := range withKeys(append(condsAt(0), condsAt(impl.MaxQp)...)) {
		for _, q := range rightSquares() {
			if !hasRow(q, c) {
				continue
			}
			row, _ := impl.SquareRow(q, c)
			for _, ahead := range []string{"", "0", "1", "0000000", longRow(41)} {
				for _, behind := range []string{"", "0", "1", "000000000000000000000", longRow(37)} {
					wantSquareAt(t, ahead+row+behind, len(ahead), c, q, len(ahead)+len(row))
				}
			}
		}
	}
	for _, c := range withKeys(rightConds()) {
		for _, q := range someSquares() {
			if hasRow(q, c) {
				row, _ := impl.SquareRow(q, c)
				wantSquareAt(t, "01"+row+"1", 2, c, q, 2+len(row))
			}
		}
	}
}

func TestUnlikeSquaresOneBehindTheOther(t *testing.T) {
	conds, squares := withKeys(rightConds()), rightSquares()
	signs, places := "0", []int{}
	for i, q := range squares {
		c := conds[i%len(conds)]
		row, _ := impl.SquareRow(q, c)
		signs, places = signs+row, append(places, len(signs))
	}
	for i, q := range squares {
		c := conds[i%len(conds)]
		if hasRow(q, c) {
			wantSquareAt(t, signs, places[i], c, q, places[i]+impl.SquareSize(q, c))
		}
	}
}

// With Key there is no kind: what would be one is read as the mode.
func TestReadSquareWithKeyIsAGuess(t *testing.T) {
	for _, c := range []impl.Cond{largeAt(3), exactAt(3)} {
		wantSquareAt(t, "11", 0, c, impl.Square{}, 1)
		wantSquareAt(t, "11", 0, keyed(c), guessed(0, allAlike(64, 0)), 2)
		wantSquareAt(t, "0101", 0, keyed(c), guessed(1, allAlike(64, 0)), 4)
		wantSquareAt(t, "010111", 0, c, moved(0, 0, allAlike(64, 0)), 6)
		wantSquareAt(t, "0111", 0, keyed(c), guessed(2, allAlike(64, 0)), 4)
		wantSquareAt(t, "01111", 0, c, guessed(0, allAlike(64, 0)), 5)
		wantSquareAt(t, "001001", 0, keyed(c), guessed(3, allAlike(64, 0)), 6)
		wantNoSquareAt(t, "001001", 0, c)
		wantNoSquareAt(t, "1", 0, keyed(c))
	}
	for _, q := range someSquares() {
		c := keyed(smallAt(8))
		if got, _, ok := impl.ReadSquare(squareSigns(q, smallAt(8))+strings.Repeat("1", 9), 0, c); ok && got.Kind != impl.SqGuess {
			t.Errorf("with Key %+v is read", got)
		}
	}
}

func TestRowsOfKindsThatThereAreNot(t *testing.T) {
	for _, kind := range []int{3, 4, 5, 6, 7, 8, 255, 256, 257, 258, 1 << 16, 1<<16 + 1, impl.MaxUe - 1, impl.MaxUe} {
		for _, c := range condsAt(1) {
			wantNoSquareAt(t, ueRowOf(kind), 0, c)
			wantNoSquareAt(t, ueRowOf(kind)+"1111", 0, c)
			wantNoSquareAt(t, ueRowOf(kind)+"11"+levelsSigns(upTo(64), c), 0, c)
			wantNoSquareAt(t, ueRowOf(kind)+strings.Repeat("1", 100), 0, c)
		}
	}
}

func TestRowsOfModesThatThereAreNot(t *testing.T) {
	for _, c := range condsAt(1) {
		for _, levels := range [][]int{allAlike(64, 0), upTo(64)} {
			signs := levelsSigns(levels, c)
			for mode := range 4 {
				wantSquareAt(t, "011"+ueRowOf(mode)+signs, 0, c, guessed(mode, levels), len("011"+ueRowOf(mode)+signs))
			}
			for _, mode := range []int{4, 5, 6, 7, 8, 11, 256, 259, 1 << 16, impl.MaxUe - 1, impl.MaxUe} {
				wantNoSquareAt(t, "011"+ueRowOf(mode)+signs, 0, c)
				wantNoSquareAt(t, "011"+ueRowOf(mode)+signs+longRow(50), 0, c)
				wantNoSquareAt(t, ueRowOf(mode)+signs, 0, keyed(c))
				wantNoSquareAt(t, "1"+ueRowOf(mode)+signs+"1", 1, keyed(c))
			}
		}
	}
}

func TestRowsOfMovesThatThereAreNot(t *testing.T) {
	for _, c := range condsAt(1) {
		for _, levels := range [][]int{allAlike(64, 0), upTo(64)} {
			signs := levelsSigns(levels, c)
			for dx := -18; dx <= 18; dx++ {
				for _, dy := range []int{-18, -17, -16, -1, 0, 5, 16, 17, 18} {
					row := "010" + seRowOf(dx) + seRowOf(dy) + signs
					if dx < -16 || dx > 16 || dy < -16 || dy > 16 {
						wantNoSquareAt(t, row, 0, c)
					} else {
						wantSquareAt(t, row, 0, c, moved(dx, dy, levels), len(row))
					}
				}
			}
			for _, n := range []int{32, -32, 256, -256, 1 << 16, -1 << 16, impl.MaxSe, -impl.MaxSe} {
				wantNoSquareAt(t, "010"+seRowOf(n)+"1"+signs, 0, c)
				wantNoSquareAt(t, "010"+"1"+seRowOf(n)+signs, 0, c)
			}
		}
	}
}

func TestRowsOfLevelsThatThereAreNot(t *testing.T) {
	for _, c := range condsAt(1) {
		for _, signs := range []string{signsOf(1, 3, 0), signsOf(1, 3, impl.MaxLevel+1), signsOf(1, 3, -impl.MaxLevel-1), signsOf(1, 64, 1), ueRowOf(65), ueRowOf(impl.MaxUe)} {
			for _, ahead := range []string{"01011", "0111", "01100100"} {
				wantNoSquareAt(t, ahead+signs+strings.Repeat("1010", 80), 0, c)
			}
			wantNoSquareAt(t, "1"+signs+strings.Repeat("1010", 80), 0, keyed(c))
		}
	}
}

func TestARowThatEndsWithinASquare(t *testing.T) {
	for _, c := range withKeys(condsAt(9)) {
		for _, q := range someSquares() {
			if !hasRow(q, c) {
				continue
			}
			row := squareSigns(q, c)
			for cut := range len(row) {
				wantNoSquareAt(t, row[:cut], 0, c)
				wantNoSquareAt(t, "101"+row[:cut], 3, c)
			}
			wantSquareAt(t, "101"+row, 3, c, q, 3+len(row))
		}
	}
}

// squareReadAt is what ReadSquare must answer at a place of a row, a part after the other.
func squareReadAt(row string, at int, c impl.Cond) (impl.Square, int, bool) {
	q, ok := impl.Square{Kind: 2}, true
	if !c.Key {
		q.Kind, at, ok = ueAt(row, at)
	}
	if !ok || q.Kind > 2 {
		return impl.Square{}, 0, false
	}
	switch q.Kind {
	case 0:
		return q, at, true
	case 1:
		if q.Dx, at, ok = seAt(row, at); ok {
			q.Dy, at, ok = seAt(row, at)
		}
	case 2:
		q.Mode, at, ok = ueAt(row, at)
	}
	if !ok || q.Mode > 3 || q.Dx > 16 || q.Dx < -16 || q.Dy > 16 || q.Dy < -16 {
		return impl.Square{}, 0, false
	}
	q.Levels, at, ok = levelsReadAt(row, at, c)
	if !ok {
		return impl.Square{}, 0, false
	}
	return q, at, true
}

func checkSquareAt(t *testing.T, row string, at int, c impl.Cond) {
	t.Helper()
	want, wantBehind, wantOk := squareReadAt(row, at, c)
	if !wantOk {
		wantNoSquareAt(t, row, at, c)
		return
	}
	wantSquareAt(t, row, at, c, want, wantBehind)
	wantSquareRow(t, want, c, row[at:wantBehind])
}

func TestReadSquareAtEachPlaceOfEachRow(t *testing.T) {
	rows := append(plainRows(), strings.Repeat("010", 150))
	for _, q := range someSquares() {
		for _, c := range condsAt(4) {
			rows = append(rows, longRow(19)+squareSigns(q, c)+squareSigns(q, c)+longRow(23))
		}
	}
	eachPlaceOfRows(11, rows, func(row string, at int) {
		for _, c := range withKeys(condsAt(4)) {
			checkSquareAt(t, row, at, c)
		}
	})
}

func TestReadSquareAtFarPlaces(t *testing.T) {
	for _, c := range withKeys(condsAt(impl.MaxQp)) {
		for _, q := range someSquares() {
			row := "1" + squareSigns(q, c)
			for _, at := range append(farNumbers(), -2, -1, len(row), len(row)+1, len(row)+2) {
				if at < 0 || at >= len(row) {
					wantNoSquareAt(t, row, at, c)
				}
			}
		}
		wantNoSquareAt(t, "", 0, c)
	}
}

// The whole row is looked at, not only the signs of the square.
func TestReadSquareOfNoRow(t *testing.T) {
	for _, c := range withKeys(condsAt(0)) {
		for _, q := range []impl.Square{{}, moved(1, -2, alone(64, 35, -7)), guessed(1, alone(64, 35, -7))} {
			if !hasRow(q, c) {
				continue
			}
			row := "10" + squareSigns(q, c) + "01"
			wantSquareAt(t, row, 2, c, q, len(row)-2)
			for b := range 256 {
				if b == '0' || b == '1' {
					continue
				}
				for place := range len(row) {
					wantNoSquareAt(t, row[:place]+byteText(b)+row[place+1:], 2, c)
				}
				wantNoSquareAt(t, row+byteText(b), 2, c)
			}
		}
	}
}

func TestSquaresInTheLongestRow(t *testing.T) {
	for _, c := range withKeys(condsAt(11)) {
		for _, q := range []impl.Square{{}, moved(-16, 16, allAlike(64, -impl.MaxLevel)), guessed(3, allAlike(64, impl.MaxLevel))} {
			if !hasRow(q, c) {
				continue
			}
			signs := squareSigns(q, c)
			full := longRow(impl.MaxRow-len(signs)) + signs
			wantSquareAt(t, full, impl.MaxRow-len(signs), c, q, impl.MaxRow)
			wantNoSquareAt(t, full, impl.MaxRow, c)
			wantNoSquareAt(t, "1"+full, impl.MaxRow+1-len(signs), c)
			full = signs + longRow(impl.MaxRow-len(signs))
			wantSquareAt(t, full, 0, c, q, len(signs))
			wantNoSquareAt(t, full+"0", 0, c)
		}
	}
}

func TestSquaresLeaveTheirLevels(t *testing.T) {
	squares := append(someSquares(), moved(17, 0, upTo(64)), guessed(4, upTo(64)), guessed(0, allAlike(63, 7)), guessed(0, alone(64, 3, impl.MaxLevel+1)), impl.Square{Levels: allAlike(64, 1)}, impl.Square{Kind: 3, Levels: upTo(64)})
	for _, c := range withKeys(condsAt(0)) {
		for _, q := range squares {
			given := q
			given.Levels = withRoom(q.Levels)
			before := slices.Clone(allOf(given.Levels))
			impl.SquareOk(given)
			impl.SquareSize(given, c)
			row, ok := impl.SquareRow(given, c)
			if !slices.Equal(allOf(given.Levels), before) {
				t.Fatalf("SquareRow(%+v, %+v) changed its levels to %v", q, c, allOf(given.Levels))
			}
			for place := range allOf(given.Levels) {
				allOf(given.Levels)[place] = 1
			}
			if again, againOk := impl.SquareRow(q, c); again != row || againOk != ok {
				t.Fatalf("SquareRow(%+v, %+v): %q, then %q", q, c, row, again)
			}
		}
	}
}

func TestReadSquareAnswersNewMemory(t *testing.T) {
	for _, c := range condsAt(0) {
		for _, q := range someSquares() {
			row := squareSigns(q, c)
			first, _, _ := impl.ReadSquare(row, 0, c)
			second, _, _ := impl.ReadSquare(row, 0, c)
			for place := range allOf(first.Levels) {
				allOf(first.Levels)[place] = -9
			}
			if !sameSquare(second, q) {
				t.Fatalf("ReadSquare of %+v: an answer that was written over changed another one to %+v", q, second)
			}
			wantSquareAt(t, row, 0, c, q, len(row))
		}
	}
}

// Each call is made again behind others, so that what was kept from them would be seen.
func TestSquaresKeepNothing(t *testing.T) {
	for range 2 {
		for _, c := range withKeys(append(condsAt(6), condsAt(0)...)) {
			for _, q := range someSquares() {
				checkSquareRow(t, q, c)
				if hasRow(q, c) {
					wantSquareAt(t, squareSigns(q, c), 0, c, q, len(squareSigns(q, c)))
				}
				wantNoSquareRow(t, impl.Square{Kind: -1}, c)
				wantNoSquareAt(t, "0", 0, c)
			}
		}
	}
}
