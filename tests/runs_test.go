package tests

import (
	"math"
	"slices"
	"strings"
	"testing"

	"loop.example/g00960/impl"
)

// scanOrders are the places of both sides, written out in the chapter's order.
func scanOrders() map[int][]int {
	return map[int][]int{
		4: {
			0,
			1, 4,
			8, 5, 2,
			3, 6, 9, 12,
			13, 10, 7,
			11, 14,
			15,
		},
		8: {
			0,
			1, 8,
			16, 9, 2,
			3, 10, 17, 24,
			32, 25, 18, 11, 4,
			5, 12, 19, 26, 33, 40,
			48, 41, 34, 27, 20, 13, 6,
			7, 14, 21, 28, 35, 42, 49, 56,
			57, 50, 43, 36, 29, 22, 15,
			23, 30, 37, 44, 51, 58,
			59, 52, 45, 38, 31,
			39, 46, 53, 60,
			61, 54, 47,
			55, 62,
			63,
		},
	}
}

// wrongSides are on both sides of the right ones; the square of some is that of a right one, or of none, in the bits of an int.
func wrongSides() []int {
	return append(farNumbers(), 0, 1, 2, 3, 5, 6, 7, 9, 10, 12, 15, 16, 17, 32, 64, -1, -2, -3, -4, -5, -7, 1<<32+4, 1<<32+8, 1<<63-4, math.MinInt+4, math.MinInt/2+4)
}

func TestScanAtEachPlace(t *testing.T) {
	for side, order := range scanOrders() {
		if len(order) != side*side {
			t.Fatalf("%d places of the side %d are written out", len(order), side)
		}
		for k, want := range order {
			if got := impl.ScanAt(side, k); got != want {
				t.Errorf("ScanAt(%d, %d): %d; want %d", side, k, got, want)
			}
		}
	}
}

func TestScanGoesDiagonalByDiagonal(t *testing.T) {
	for _, side := range []int{4, 8} {
		seen := make([]int, side*side)
		for k := range side * side {
			place := impl.ScanAt(side, k)
			if place < 0 || place >= side*side {
				t.Fatalf("ScanAt(%d, %d): %d", side, k, place)
			}
			seen[place]++
			if k == 0 {
				continue
			}
			before := impl.ScanAt(side, k-1)
			diagonal, ahead := place/side+place%side, before/side+before%side
			down := place/side - before/side
			switch {
			case diagonal == ahead && diagonal%2 == 1 && down == 1:
			case diagonal == ahead && diagonal%2 == 0 && down == -1:
			case diagonal == ahead+1:
			default:
				t.Errorf("side %d: the place %d comes behind %d", side, place, before)
			}
		}
		if !slices.Equal(seen, allAlike(side*side, 1)) {
			t.Errorf("side %d: the places come so often: %v", side, seen)
		}
	}
}

func TestScanAtOthers(t *testing.T) {
	if impl.ScanAt(4, 16) != -1 || impl.ScanAt(8, 64) != -1 || impl.ScanAt(4, -1) != -1 || impl.ScanAt(8, -1) != -1 {
		t.Error("there is a place ahead of the first one, or behind the last one")
	}
	for _, side := range []int{4, 8} {
		for _, k := range append(farNumbers(), -2, -15, -16, -17, side*side, side*side+1, 2*side*side, 65, 1<<32+5, math.MinInt+5) {
			if got := impl.ScanAt(side, k); got != -1 {
				t.Errorf("ScanAt(%d, %d): %d; want -1", side, k, got)
			}
		}
	}
	for _, side := range wrongSides() {
		for _, k := range append(farNumbers(), upTo(66)...) {
			if got := impl.ScanAt(side, k); got != -1 {
				t.Errorf("ScanAt(%d, %d): %d; want -1", side, k, got)
			}
		}
	}
}

// scannedBy and unscannedBy go by the order that is written out.
func scannedBy(side int, list []int) []int {
	scanned := []int{}
	for _, place := range scanOrders()[side] {
		scanned = append(scanned, list[place])
	}
	return scanned
}

func unscannedBy(side int, list []int) []int {
	unscanned := make([]int, len(list))
	for k, place := range scanOrders()[side] {
		unscanned[place] = list[k]
	}
	return unscanned
}

// whenRight answers -1 alone where a list is refused, so that no refusal is taken for a list.
func whenRight(turn func(int, []int) ([]int, bool), side int) func([]int) []int {
	return func(list []int) []int {
		if got, ok := turn(side, list); ok {
			return got
		}
		return []int{-1}
	}
}

func scanTurns() []listTurn {
	turns := []listTurn{}
	for _, side := range []int{4, 8} {
		turns = append(turns,
			listTurn{"Scanned", side * side, math.MaxInt, whenRight(impl.Scanned, side), func(list []int) []int { return scannedBy(side, list) }},
			listTurn{"Unscanned", side * side, math.MaxInt, whenRight(impl.Unscanned, side), func(list []int) []int { return unscannedBy(side, list) }},
		)
	}
	return turns
}

// scanLists have numbers of any size: a scan moves them, and looks at none.
func scanLists(size int) [][]int {
	lists := [][]int{allAlike(size, 0), allAlike(size, math.MinInt), allAlike(size, math.MaxInt), upTo(size)}
	for place := range size {
		for _, n := range append(farNumbers(), 1, -1) {
			lists = append(lists, alone(size, place, n))
		}
	}
	return append(append(lists, drawn(50, size, 2)...), drawn(50, size, 1<<60)...)
}

func TestScansAreWhatTheChapterTells(t *testing.T) {
	for _, f := range scanTurns() {
		checkTurns(t, f, scanLists(f.size))
	}
}

func TestScansByHand(t *testing.T) {
	rows := []int{10, 11, 12, 13, 20, 21, 22, 23, 30, 31, 32, 33, 40, 41, 42, 43}
	order := []int{10, 11, 20, 30, 21, 12, 13, 22, 31, 40, 41, 32, 23, 33, 42, 43}
	if got, ok := impl.Scanned(4, rows); !ok || !slices.Equal(got, order) {
		t.Errorf("Scanned(4, %v): %v, %v; want %v", rows, got, ok, order)
	}
	if got, ok := impl.Unscanned(4, order); !ok || !slices.Equal(got, rows) {
		t.Errorf("Unscanned(4, %v): %v, %v; want %v", order, got, ok, rows)
	}
	if got, ok := impl.Unscanned(4, upTo(16)); !ok || !slices.Equal(got, []int{0, 1, 5, 6, 2, 4, 7, 12, 3, 8, 11, 13, 9, 10, 14, 15}) {
		t.Errorf("Unscanned of 0 to 15: %v, %v", got, ok)
	}
	if got, ok := impl.Scanned(8, upTo(64)); !ok || !slices.Equal(got, scanOrders()[8]) {
		t.Errorf("Scanned of 0 to 63: %v, %v", got, ok)
	}
}

func TestListsComeBackFromScans(t *testing.T) {
	for _, side := range []int{4, 8} {
		for _, list := range scanLists(side * side) {
			scanned, ok := impl.Scanned(side, list)
			back, backOk := impl.Unscanned(side, scanned)
			if !ok || !backOk || !slices.Equal(back, list) {
				t.Fatalf("Unscanned of Scanned of %v with the side %d: %v, %v, %v", list, side, back, ok, backOk)
			}
			unscanned, ok := impl.Unscanned(side, list)
			again, againOk := impl.Scanned(side, unscanned)
			if !ok || !againOk || !slices.Equal(again, list) {
				t.Fatalf("Scanned of Unscanned of %v with the side %d: %v, %v, %v", list, side, again, ok, againOk)
			}
		}
	}
}

func wantNoScan(t *testing.T, side int, list []int) {
	t.Helper()
	if got, ok := impl.Scanned(side, list); ok || len(got) != 0 {
		t.Errorf("Scanned of side %d and %d numbers: %v, %v; want a refusal", side, len(list), got, ok)
	}
	if got, ok := impl.Unscanned(side, list); ok || len(got) != 0 {
		t.Errorf("Unscanned of side %d and %d numbers: %v, %v; want a refusal", side, len(list), got, ok)
	}
}

func TestScansOfOtherLists(t *testing.T) {
	sizes := []int{0, 1, 3, 4, 8, 9, 15, 16, 17, 25, 36, 49, 63, 64, 65, 81, 128, 256}
	for _, side := range []int{4, 8} {
		wantNoScan(t, side, nil)
		for _, size := range sizes {
			if size != side*side {
				wantNoScan(t, side, allAlike(size, 0))
				wantNoScan(t, side, allAlike(size, 7))
			}
		}
	}
	for _, side := range wrongSides() {
		wantNoScan(t, side, nil)
		for _, size := range sizes {
			wantNoScan(t, side, allAlike(size, 7))
		}
	}
}

func TestScansLeaveTheirLists(t *testing.T) {
	for _, f := range scanTurns() {
		for _, list := range append(scanLists(f.size), allAlike(f.size-1, 7), allAlike(f.size+1, 7)) {
			checkLeavesList(t, f, list)
		}
	}
}

// runsSigns is what RunsRow must answer of a right list.
func runsSigns(list []int) string {
	signs, count, noughts := "", 0, 0
	for _, n := range list {
		if n == 0 {
			noughts++
			continue
		}
		signs += ueRowOf(noughts) + seRowOf(n)
		count, noughts = count+1, 0
	}
	return ueRowOf(count) + signs
}

// between has noughts, but for the places from .. behind less 1, where n stands.
func between(size, from, behind, n int) []int {
	list := make([]int, size)
	for place := from; place < behind; place++ {
		list[place] = n
	}
	return list
}

// sparse lists have numbers at one of so many places, and noughts; the places are drawn apart from the numbers.
func sparse(lists, size, limit, oneOf int) [][]int {
	all := [][]int{}
	for _, from := range drawn(lists, 2*size, 1<<40) {
		list := make([]int, size)
		for place := range list {
			if from[size+place]%oneOf == 0 {
				list[place] = from[place] % (limit + 1)
			}
		}
		all = append(all, list)
	}
	return all
}

// runsLists are right lists of so many numbers.
func runsLists(size int) [][]int {
	lists := [][]int{allAlike(size, 0), upTo(size)}
	for _, n := range []int{1, -1, 2, -3, 100, impl.MaxLevel - 1, 1 - impl.MaxLevel, impl.MaxLevel, -impl.MaxLevel} {
		lists = append(lists, allAlike(size, n))
		for place := range size {
			lists = append(lists, alone(size, place, n))
			lists = append(lists, between(size, place, size, n), between(size, 0, place, n))
			lists = append(lists, sumsOf(alone(size, place, n), alone(size, size-1, 7)))
			lists = append(lists, sumsOf(allAlike(size, n), alone(size, place, -n)))
		}
	}
	for _, limit := range []int{1, 3, 40, impl.MaxLevel} {
		lists = append(lists, drawn(50, size, limit)...)
		lists = append(lists, sparse(50, size, limit, 2)...)
		lists = append(lists, sparse(50, size, limit, 10)...)
	}
	// A sum may have gone beyond the limit.
	return slices.DeleteFunc(lists, func(list []int) bool {
		return slices.Max(list) > impl.MaxLevel || slices.Min(list) < -impl.MaxLevel
	})
}

func wantRuns(t *testing.T, row string, at, n int, want []int, wantBehind int) {
	t.Helper()
	if got, behind, ok := impl.ReadRuns(row, at, n); !ok || behind != wantBehind || !slices.Equal(got, want) {
		t.Fatalf("ReadRuns(%.60q, %d, %d): %v, %d, %v; want %v, %d", row, at, n, got, behind, ok, want, wantBehind)
	}
}

func wantNoRuns(t *testing.T, row string, at, n int) {
	t.Helper()
	if got, behind, ok := impl.ReadRuns(row, at, n); ok || behind != 0 || len(got) != 0 {
		t.Fatalf("ReadRuns(%.60q, %d, %d): %v, %d, %v; want a refusal", row, at, n, got, behind, ok)
	}
}

func wantNoRunsOf(t *testing.T, list []int) {
	t.Helper()
	if row, ok := impl.RunsRow(list); ok || row != "" {
		t.Errorf("RunsRow of %d numbers %v: %.60q, %v; want a refusal", len(list), list, row, ok)
	}
	if size := impl.RunsSize(list); size != 0 {
		t.Errorf("RunsSize of %d numbers %v: %d; want 0", len(list), list, size)
	}
}

func TestRunsByHand(t *testing.T) {
	for _, c := range []struct {
		list []int
		want string
	}{
		{allAlike(16, 0), "1"},
		{allAlike(64, 0), "1"},
		{alone(16, 0, 1), "010" + "1" + "010"},
		{alone(64, 0, 1), "010" + "1" + "010"},
		{alone(16, 2, 3), "010" + "011" + "00110"},
		{alone(16, 15, -1), "010" + "000010000" + "011"},
		{alone(64, 63, 1), "010" + "0000001000000" + "010"},
		{alone(16, 0, 5000), "010" + "1" + "000000000000010011100010000"},
		{alone(64, 1, -5000), "010" + "010" + "000000000000010011100010001"},
		{[]int{1, -1, 0, 0, 0, 0, 0, 0, 0, 0, 0, 0, 0, 0, 0, 0}, "011" + "1010" + "1011"},
		{[]int{0, 5, 0, 0, -5, 0, 0, 0, 0, 0, 0, 0, 0, 0, 0, 0}, "011" + "010" + "0001010" + "011" + "0001011"},
		{[]int{0, 0, 0, 0, 0, 0, 0, 0, 0, 0, 0, 0, 0, 2, 0, -2}, "011" + "0001110" + "00100" + "010" + "00101"},
		{allAlike(16, 1), "000010001" + strings.Repeat("1010", 16)},
		{allAlike(64, -1), "0000001000001" + strings.Repeat("1011", 64)},
	} {
		if got, ok := impl.RunsRow(c.list); !ok || got != c.want {
			t.Errorf("RunsRow(%v): %q, %v; want %q", c.list, got, ok, c.want)
		}
		if got := impl.RunsSize(c.list); got != len(c.want) {
			t.Errorf("RunsSize(%v): %d; want %d", c.list, got, len(c.want))
		}
		wantRuns(t, c.want, 0, len(c.list), c.list, len(c.want))
	}
}

// Each list is read amid other signs, too, none of which may be taken for its own.
func TestListsComeBackFromRuns(t *testing.T) {
	for _, size := range []int{16, 64} {
		for _, list := range runsLists(size) {
			row, ok := impl.RunsRow(list)
			if want := runsSigns(list); !ok || row != want {
				t.Fatalf("RunsRow(%v): %q, %v; want %q", list, row, ok, want)
			}
			if got := impl.RunsSize(list); got != len(row) {
				t.Fatalf("RunsSize(%v): %d; want %d", list, got, len(row))
			}
			for _, ahead := range []string{"", "0", "1", "0000000", "11", longRow(41)} {
				for _, behind := range []string{"", "0", "1", "000000000000000000000", "111111", longRow(37)} {
					wantRuns(t, ahead+row+behind, len(ahead), size, list, len(ahead)+len(row))
				}
			}
		}
	}
}

func TestListsOneBehindTheOther(t *testing.T) {
	lists := append(sparse(40, 16, 9, 3), sparse(40, 64, impl.MaxLevel, 3)...)
	row := "00"
	for _, list := range lists {
		signs, _ := impl.RunsRow(list)
		row += signs
	}
	at := 2
	for _, list := range lists {
		wantRuns(t, row, at, len(list), list, at+impl.RunsSize(list))
		at += impl.RunsSize(list)
	}
	if at != len(row) {
		t.Errorf("the lists end at %d of %d", at, len(row))
	}
}

func TestARowThatEndsWithinItsList(t *testing.T) {
	for _, size := range []int{16, 64} {
		lists := [][]int{allAlike(size, 0), allAlike(size, 1), upTo(size), alone(size, size-1, -impl.MaxLevel), alone(size, 0, impl.MaxLevel)}
		for _, list := range append(lists, sparse(20, size, 300, 2)...) {
			row := runsSigns(list)
			for cut := range len(row) {
				wantNoRuns(t, row[:cut], 0, size)
				wantNoRuns(t, "101"+row[:cut], 3, size)
			}
		}
	}
}

func TestRunsOfOtherLists(t *testing.T) {
	wantNoRunsOf(t, nil)
	for _, size := range []int{0, 1, 4, 8, 15, 17, 32, 48, 63, 65, 128, 256} {
		wantNoRunsOf(t, allAlike(size, 0))
		wantNoRunsOf(t, allAlike(size, 1))
		for n := range 2 {
			for _, row := range []string{"1", runsSigns(allAlike(size, n)), runsSigns(allAlike(16, n))} {
				wantNoRuns(t, row, 0, size)
			}
		}
	}
	for _, n := range append(farNumbers(), -1, -15, -16, -17, 2, 14, 18, 62, 66, 1<<32+16, 1<<32+64, math.MinInt+16, math.MinInt+64) {
		for _, row := range []string{"", "1", runsSigns(allAlike(16, 1)), runsSigns(allAlike(64, 0)), runsSigns(allAlike(64, 2))} {
			wantNoRuns(t, row, 0, n)
		}
	}
}

func TestRunsOfNumbersAtAndBeyondTheLimit(t *testing.T) {
	for _, size := range []int{16, 64} {
		for place := range size {
			for _, n := range []int{impl.MaxLevel, -impl.MaxLevel, impl.MaxLevel - 1, 1 - impl.MaxLevel} {
				for _, list := range [][]int{alone(size, place, n), sumsOf(allAlike(size, 5), alone(size, place, n-5))} {
					row, ok := impl.RunsRow(list)
					if !ok || row != runsSigns(list) || impl.RunsSize(list) != len(row) {
						t.Fatalf("RunsRow(%v): %q, %v; RunsSize: %d", list, row, ok, impl.RunsSize(list))
					}
					wantRuns(t, row, 0, size, list, len(row))
				}
			}
			for _, n := range beyond(impl.MaxLevel) {
				wantNoRunsOf(t, alone(size, place, n))
				wantNoRunsOf(t, sumsOf(allAlike(size, 5), alone(size, place, n-5)))
			}
		}
	}
}

// signsOf writes levels with the noughts ahead of each, whether a right list has them or not.
func signsOf(count int, pairs ...int) string {
	row := ueRowOf(count)
	for i := 0; i < len(pairs); i += 2 {
		row += ueRowOf(pairs[i]) + seRowOf(pairs[i+1])
	}
	return row
}

func TestRowsThatTellMoreThanThereArePlaces(t *testing.T) {
	for _, size := range []int{16, 64} {
		full := strings.Repeat("1010", size)
		wantRuns(t, ueRowOf(size)+full, 0, size, allAlike(size, 1), len(ueRowOf(size)+full))
		for _, count := range []int{size + 1, size + 2, 2 * size, 255, 256, impl.MaxUe - 1, impl.MaxUe} {
			wantNoRuns(t, ueRowOf(count), 0, size)
			wantNoRuns(t, ueRowOf(count)+full, 0, size)
			wantNoRuns(t, ueRowOf(count)+full+full+full+full+full, 0, size)
		}
		for _, noughts := range []int{size, size + 1, 2 * size, 1 << 19, impl.MaxUe} {
			wantNoRuns(t, signsOf(1, noughts, 1), 0, size)
			wantNoRuns(t, signsOf(1, noughts, 1)+"1111", 0, size)
			wantNoRuns(t, signsOf(2, noughts, 1, 0, 1), 0, size)
			wantNoRuns(t, signsOf(2, 0, 1, noughts, 1), 0, size)
		}
		for place := range size {
			left := size - 1 - place
			last := signsOf(2, place, 9, left-1, -9)
			if left > 0 {
				wantRuns(t, last, 0, size, sumsOf(alone(size, place, 9), alone(size, size-1, -9)), len(last))
			}
			wantNoRuns(t, signsOf(2, place, 9, left, -9), 0, size)
			wantNoRuns(t, signsOf(2, place, 9, left+1, -9)+"1", 0, size)
			wantNoRuns(t, signsOf(3, place, 9, left, -9, 0, 1), 0, size)
		}
	}
}

// A list of sixty-four is none of sixteen, unless its last numbers are noughts.
func TestRowsOfTheOtherLength(t *testing.T) {
	for place := range 64 {
		row := runsSigns(alone(64, place, -4))
		wantRuns(t, row, 0, 64, alone(64, place, -4), len(row))
		if place < 16 {
			wantRuns(t, row, 0, 16, alone(16, place, -4), len(row))
		} else {
			wantNoRuns(t, row, 0, 16)
		}
	}
}

func TestRowsThatTellLevelsOfNoList(t *testing.T) {
	levels := []int{0, 5001, -5001, 5002, -5002, 8191, 8192, -8192, 65536, impl.MaxSe - 1, impl.MaxSe, -impl.MaxSe}
	for _, size := range []int{16, 64} {
		for place := range size {
			for _, n := range levels {
				wantNoRuns(t, signsOf(1, place, n), 0, size)
				wantNoRuns(t, signsOf(1, place, n)+"10110", 0, size)
				wantNoRuns(t, "011"+signsOf(1, place, n), 3, size)
				if place > 0 {
					wantNoRuns(t, signsOf(2, 0, 1, place-1, n), 0, size)
				}
				if place < size-1 {
					wantNoRuns(t, signsOf(2, place, n, 0, 1), 0, size)
				}
			}
		}
	}
}

// runsReadAt is what ReadRuns must answer at a place of a row: the list grows by each number as it is read.
func runsReadAt(row string, at, n int) ([]int, int, bool) {
	count, at, ok := ueAt(row, at)
	list := []int{}
	for i := 0; ok && i < count; i++ {
		var noughts, level int
		noughts, at, ok = ueAt(row, at)
		if !ok || noughts > 64 {
			return nil, 0, false
		}
		level, at, ok = seAt(row, at)
		list = append(append(list, make([]int, noughts)...), level)
		if level == 0 || level > impl.MaxLevel || level < -impl.MaxLevel || len(list) > n {
			return nil, 0, false
		}
	}
	if !ok {
		return nil, 0, false
	}
	return append(list, make([]int, n-len(list))...), at, true
}

func checkRunsAt(t *testing.T, row string, at, n int) {
	t.Helper()
	want, wantBehind, wantOk := runsReadAt(row, at, n)
	if !wantOk {
		wantNoRuns(t, row, at, n)
		return
	}
	wantRuns(t, row, at, n, want, wantBehind)
	if again, ok := impl.RunsRow(want); !ok || again != row[at:wantBehind] {
		t.Fatalf("RunsRow(%v): %q, %v; it was read from %q", want, again, ok, row[at:wantBehind])
	}
}

func TestReadRunsAtEachPlaceOfEachRow(t *testing.T) {
	everyText("01", 12, func(row string) {
		for at := -2; at <= len(row)+2; at++ {
			checkRunsAt(t, row, at, 16)
			checkRunsAt(t, row, at, 64)
		}
	})
	rows := []string{longRow(2000), strings.Repeat("1", 300), strings.Repeat("01", 300), strings.Repeat("011", 300), strings.Repeat("0110010", 200), strings.Repeat("0", 300)}
	for _, list := range sparse(30, 64, 60, 2) {
		rows = append(rows, longRow(19)+runsSigns(list)+longRow(23))
	}
	for _, row := range rows {
		for at := -2; at <= len(row)+2; at++ {
			checkRunsAt(t, row, at, 16)
			checkRunsAt(t, row, at, 64)
		}
	}
}

func TestReadRunsAtFarPlaces(t *testing.T) {
	for _, list := range [][]int{allAlike(16, 0), allAlike(64, 0), allAlike(16, 3), alone(64, 63, 1)} {
		row := runsSigns(list)
		for _, at := range append(farNumbers(), -2, -1, len(row), len(row)+1, len(row)+2) {
			if at < 0 || at >= len(row) {
				wantNoRuns(t, row, at, len(list))
			}
		}
		wantNoRuns(t, "", 0, len(list))
	}
}

// The whole row is looked at, not only the signs of the list.
func TestReadRunsOfNoRow(t *testing.T) {
	list := alone(16, 3, -7)
	row := "10" + runsSigns(list) + "01"
	wantRuns(t, row, 2, 16, list, len(row)-2)
	for b := range 256 {
		if b == '0' || b == '1' {
			continue
		}
		sign := byteText(b)
		for place := range len(row) {
			wantNoRuns(t, row[:place]+sign+row[place+1:], 2, 16)
		}
		for _, wrong := range []string{sign, "1" + sign, sign + "1", "1" + longRow(100) + sign} {
			for at := range 2 {
				wantNoRuns(t, wrong, at, 16)
				wantNoRuns(t, wrong, at, 64)
			}
		}
	}
}

func TestRunsInTheLongestRow(t *testing.T) {
	for _, size := range []int{16, 64} {
		for _, list := range [][]int{allAlike(size, 0), allAlike(size, impl.MaxLevel), alone(size, 7, 1)} {
			signs := runsSigns(list)
			full := longRow(impl.MaxRow-len(signs)) + signs
			wantRuns(t, full, impl.MaxRow-len(signs), size, list, impl.MaxRow)
			wantNoRuns(t, full, impl.MaxRow, size)
			wantNoRuns(t, full, impl.MaxRow+1, size)
			wantNoRuns(t, "1"+full, impl.MaxRow+1-len(signs), size)
			full = signs + longRow(impl.MaxRow-len(signs))
			wantRuns(t, full, 0, size, list, len(signs))
			wantNoRuns(t, full+"0", 0, size)
		}
		wantNoRuns(t, strings.Repeat("0", impl.MaxRow), 0, size)
	}
}

func TestRunsLeaveTheirLists(t *testing.T) {
	for _, size := range []int{16, 64} {
		for _, list := range append(sparse(40, size, impl.MaxLevel, 2), allAlike(size, 0), allAlike(size, 1), allAlike(size-1, 7), alone(size, 3, impl.MaxLevel+1)) {
			room := append(slices.Clone(list), 77, 78, 79)
			before := slices.Clone(room)
			row, ok := impl.RunsRow(room[:len(list)])
			long := impl.RunsSize(room[:len(list)])
			if !slices.Equal(room, before) {
				t.Fatalf("%v became %v", before, room)
			}
			for place := range room {
				room[place] = 1
			}
			again, againOk := impl.RunsRow(list)
			if again != row || againOk != ok || impl.RunsSize(list) != long {
				t.Fatalf("RunsRow(%v): %q, then %q", list, row, again)
			}
		}
	}
}

func TestReadRunsAnswersNewMemory(t *testing.T) {
	for _, size := range []int{16, 64} {
		for _, list := range append(sparse(40, size, impl.MaxLevel, 2), allAlike(size, 0), upTo(size)) {
			row := runsSigns(list)
			got, _, _ := impl.ReadRuns(row, 0, size)
			for place := range got {
				got[place] = -1
			}
			wantRuns(t, row, 0, size, list, len(row))
		}
	}
}
