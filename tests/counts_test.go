package tests

import (
	"math"
	"slices"
	"strconv"
	"strings"
	"testing"

	"loop.example/g00960/impl"
)

func TestCountsLimits(t *testing.T) {
	if impl.MaxUe != 1000000 || impl.MaxSe != 500000 {
		t.Error("a constant is not the chapter's")
	}
}

// ueRowOf is what UeRow must answer of a number that has one, by the library's figures.
func ueRowOf(n int) string {
	figures := strconv.FormatInt(int64(n)+1, 2)
	return strings.Repeat("0", len(figures)-1) + figures
}

func TestUeRow(t *testing.T) {
	for _, c := range []struct {
		n    int
		want string
	}{
		{0, "1"}, {1, "010"}, {2, "011"}, {3, "00100"}, {4, "00101"}, {6, "00111"}, {7, "0001000"}, {8, "0001001"},
		{impl.MaxUe, "000000000000000000011110100001001000001"},
		{impl.MaxUe - 1, "000000000000000000011110100001001000000"},
	} {
		if got, ok := impl.UeRow(c.n); !ok || got != c.want {
			t.Errorf("UeRow(%d): %q, %v; want %q", c.n, got, ok, c.want)
		}
	}
}

func TestSeRow(t *testing.T) {
	for _, c := range []struct {
		n    int
		want string
	}{
		{0, "1"}, {1, "010"}, {-1, "011"}, {2, "00100"}, {-2, "00101"}, {3, "00110"}, {-3, "00111"}, {4, "0001000"},
		{-impl.MaxSe, "000000000000000000011110100001001000001"},
		{impl.MaxSe, "000000000000000000011110100001001000000"},
	} {
		if got, ok := impl.SeRow(c.n); !ok || got != c.want {
			t.Errorf("SeRow(%d): %q, %v; want %q", c.n, got, ok, c.want)
		}
	}
}

func TestEachUeComesBackAsLongAsIsTold(t *testing.T) {
	for n := 0; n <= impl.MaxUe; n++ {
		row, ok := impl.UeRow(n)
		if !ok || row != ueRowOf(n) {
			t.Fatalf("UeRow(%d): %q, %v; want %q", n, row, ok, ueRowOf(n))
		}
		if size := impl.UeSize(n); size != len(row) {
			t.Fatalf("UeSize(%d): %d; want %d", n, size, len(row))
		}
		if back, behind, ok := impl.ReadUe(row, 0); !ok || back != n || behind != len(row) {
			t.Fatalf("ReadUe of the row of %d: %d, %d, %v", n, back, behind, ok)
		}
	}
}

func TestEachSeComesBackAsLongAsIsTold(t *testing.T) {
	for n := -impl.MaxSe; n <= impl.MaxSe; n++ {
		want := -2 * n
		if n > 0 {
			want = 2*n - 1
		}
		u, ok := impl.FoldSe(n)
		if !ok || u != want {
			t.Fatalf("FoldSe(%d): %d, %v; want %d", n, u, ok, want)
		}
		if back, ok := impl.OpenSe(u); !ok || back != n {
			t.Fatalf("OpenSe(%d): %d, %v; want %d", u, back, ok, n)
		}
		row, ok := impl.SeRow(n)
		if !ok || row != ueRowOf(want) {
			t.Fatalf("SeRow(%d): %q, %v; want %q", n, row, ok, ueRowOf(want))
		}
		if size := impl.SeSize(n); size != len(row) {
			t.Fatalf("SeSize(%d): %d; want %d", n, size, len(row))
		}
		if back, behind, ok := impl.ReadSe(row, 0); !ok || back != n || behind != len(row) {
			t.Fatalf("ReadSe of the row of %d: %d, %d, %v", n, back, behind, ok)
		}
	}
}

// The figures of n + 1 grow by one, and the row by two, at each power of two.
func TestSizesAtPowersOfTwo(t *testing.T) {
	for figures := 1; figures <= 19; figures++ {
		n := 1<<figures - 1
		for _, c := range []struct{ n, want int }{{n - 1, 2*figures - 1}, {n, 2*figures + 1}, {n + 1, 2*figures + 1}} {
			if got := impl.UeSize(c.n); got != c.want {
				t.Errorf("UeSize(%d): %d; want %d", c.n, got, c.want)
			}
			if row, ok := impl.UeRow(c.n); !ok || len(row) != c.want || row != ueRowOf(c.n) {
				t.Errorf("UeRow(%d): %q, %v; want %q", c.n, row, ok, ueRowOf(c.n))
			}
		}
	}
	if impl.UeSize(0) != 1 || impl.UeSize(impl.MaxUe) != 39 || impl.SeSize(0) != 1 || impl.SeSize(impl.MaxSe) != 39 || impl.SeSize(-impl.MaxSe) != 39 {
		t.Error("the size of the least or the greatest number")
	}
}

func TestCountsOutOfBounds(t *testing.T) {
	far := []int{math.MinInt, math.MinInt + 1, math.MinInt / 2, math.MinInt/2 - 1, -1 << 32, 1 << 32, math.MaxInt / 2, math.MaxInt/2 + 1, math.MaxInt - 1, math.MaxInt}
	for _, n := range append([]int{-impl.MaxUe, -2, -1, impl.MaxUe + 1, impl.MaxUe + 2, 1<<20 - 1, 1 << 20}, far...) {
		if row, ok := impl.UeRow(n); ok || row != "" {
			t.Errorf("UeRow(%d): %q, %v; want a refusal", n, row, ok)
		}
		if size := impl.UeSize(n); size != 0 {
			t.Errorf("UeSize(%d): %d; want 0", n, size)
		}
		if back, ok := impl.OpenSe(n); ok || back != 0 {
			t.Errorf("OpenSe(%d): %d, %v; want a refusal", n, back, ok)
		}
	}
	for _, n := range append([]int{-impl.MaxSe - 2, -impl.MaxSe - 1, impl.MaxSe + 1, impl.MaxSe + 2, impl.MaxUe, -impl.MaxUe}, far...) {
		if u, ok := impl.FoldSe(n); ok || u != 0 {
			t.Errorf("FoldSe(%d): %d, %v; want a refusal", n, u, ok)
		}
		if row, ok := impl.SeRow(n); ok || row != "" {
			t.Errorf("SeRow(%d): %q, %v; want a refusal", n, row, ok)
		}
		if size := impl.SeSize(n); size != 0 {
			t.Errorf("SeSize(%d): %d; want 0", n, size)
		}
	}
}

func TestOpenSe(t *testing.T) {
	for _, c := range []struct{ u, want int }{
		{0, 0}, {1, 1}, {2, -1}, {3, 2}, {4, -2}, {5, 3}, {6, -3},
		{2*impl.MaxSe - 1, impl.MaxSe}, {2 * impl.MaxSe, -impl.MaxSe}, {2*impl.MaxSe - 2, 1 - impl.MaxSe},
	} {
		if got, ok := impl.OpenSe(c.u); !ok || got != c.want {
			t.Errorf("OpenSe(%d): %d, %v; want %d", c.u, got, ok, c.want)
		}
	}
}

// In order, a row that begins others stands next to one of them.
func TestNoRowBeginsAnother(t *testing.T) {
	for _, write := range []func(int) (string, bool){
		impl.UeRow,
		func(u int) (string, bool) { return impl.SeRow(u - impl.MaxSe) },
	} {
		rows := make([]string, 0, impl.MaxUe+1)
		for n := 0; n <= impl.MaxUe; n++ {
			row, ok := write(n)
			if !ok {
				t.Fatalf("the number %d has no row", n)
			}
			rows = append(rows, row)
		}
		slices.Sort(rows)
		for i := 1; i < len(rows); i++ {
			if strings.HasPrefix(rows[i], rows[i-1]) {
				t.Fatalf("%q begins %q", rows[i-1], rows[i])
			}
		}
	}
}

// ueAt is what ReadUe must answer at a place of a row: each figure count is tried, by the library.
func ueAt(row string, at int) (int, int, bool) {
	if at < 0 || at > len(row) {
		return 0, 0, false
	}
	for figures := 1; figures <= 20; figures++ {
		behind := at + 2*figures - 1
		if behind > len(row) {
			return 0, 0, false
		}
		written, _ := strconv.ParseInt(row[at:behind], 2, 64)
		n := int(written) - 1
		if n >= 0 && n <= impl.MaxUe && ueRowOf(n) == row[at:behind] {
			return n, behind, true
		}
	}
	return 0, 0, false
}

// seAt is what ReadSe must answer there.
func seAt(row string, at int) (int, int, bool) {
	u, behind, ok := ueAt(row, at)
	if u%2 == 1 {
		return (u + 1) / 2, behind, ok
	}
	return -u / 2, behind, ok
}

func checkReadsAt(t *testing.T, row string, at int) {
	t.Helper()
	n, behind, ok := impl.ReadUe(row, at)
	if want, wantBehind, wantOk := ueAt(row, at); n != want || behind != wantBehind || ok != wantOk {
		t.Fatalf("ReadUe(%.60q, %d): %d, %d, %v; want %d, %d, %v", row, at, n, behind, ok, want, wantBehind, wantOk)
	}
	n, behind, ok = impl.ReadSe(row, at)
	if want, wantBehind, wantOk := seAt(row, at); n != want || behind != wantBehind || ok != wantOk {
		t.Fatalf("ReadSe(%.60q, %d): %d, %d, %v; want %d, %d, %v", row, at, n, behind, ok, want, wantBehind, wantOk)
	}
}

func TestReadsAtEachPlaceOfEachRow(t *testing.T) {
	everyText("01", 11, func(row string) {
		for at := -2; at <= len(row)+2; at++ {
			checkReadsAt(t, row, at)
		}
	})
	for _, row := range []string{longRow(300), strings.Repeat("0", 100) + "1", strings.Repeat("01", 60), strings.Repeat("1", 60)} {
		for at := -2; at <= len(row)+2; at++ {
			checkReadsAt(t, row, at)
		}
	}
}

func TestNumbersOneBehindTheOther(t *testing.T) {
	numbers := []int{0, 5, 0, impl.MaxSe, 1, 2, 3, 131071, 254, 255, 256, 0, 0, impl.MaxSe - 1, 7}
	row := "0"
	for _, n := range numbers {
		ue, _ := impl.UeRow(2 * n)
		se, _ := impl.SeRow(-n)
		row += ue + se
	}
	at := 1
	for _, n := range numbers {
		u, next, ok := impl.ReadUe(row, at)
		if !ok || u != 2*n || next != at+impl.UeSize(2*n) {
			t.Fatalf("ReadUe at %d: %d, %d, %v; want %d", at, u, next, ok, 2*n)
		}
		s, behind, ok := impl.ReadSe(row, next)
		if !ok || s != -n || behind != next+impl.SeSize(-n) {
			t.Fatalf("ReadSe at %d: %d, %d, %v; want %d", next, s, behind, ok, -n)
		}
		at = behind
	}
	if at != len(row) {
		t.Errorf("the numbers end at %d of %d", at, len(row))
	}
}

func wantNoCount(t *testing.T, row string, at int) {
	t.Helper()
	if n, behind, ok := impl.ReadUe(row, at); ok || n != 0 || behind != 0 {
		t.Errorf("ReadUe(%.60q, %d): %d, %d, %v; want a refusal", row, at, n, behind, ok)
	}
	if n, behind, ok := impl.ReadSe(row, at); ok || n != 0 || behind != 0 {
		t.Errorf("ReadSe(%.60q, %d): %d, %d, %v; want a refusal", row, at, n, behind, ok)
	}
}

func TestReadsOfARowThatEndsWithinANumber(t *testing.T) {
	for _, n := range []int{0, 1, 2, 3, 6, 7, 1000, 1<<19 - 2, 1<<19 - 1, impl.MaxUe} {
		row := ueRowOf(n)
		for size := range len(row) {
			wantNoCount(t, row[:size], 0)
			wantNoCount(t, "11"+row[:size], 2)
		}
	}
}

func TestReadsOfNumbersThatAreTooGreat(t *testing.T) {
	behind := strings.Repeat("01", 40)
	for _, n := range []int{
		impl.MaxUe + 1, impl.MaxUe + 2, 1<<20 - 2, 1<<20 - 1, 1 << 20, 1<<21 - 1, 1<<29 - 1, 1<<30 - 2, 1<<30 - 1, 1<<31 - 1,
		1 << 32, 1<<32 + 4, 1<<40 - 1, 1<<62 - 1, math.MaxInt - 1,
	} {
		row := ueRowOf(n)
		wantNoCount(t, row, 0)
		wantNoCount(t, row+behind, 0)
		wantNoCount(t, "1"+row+behind, 1)
	}
	// Their figures, cut to the bits of an int, would be those of small numbers.
	for _, noughts := range []int{63, 64, 65, 128, 1000} {
		row := strings.Repeat("0", noughts) + "1" + strings.Repeat("0", noughts-2) + "11"
		wantNoCount(t, row, 0)
		wantNoCount(t, row+behind, 0)
	}
}

func TestReadsOfManySignsZero(t *testing.T) {
	for _, size := range []int{1, 2, 19, 20, 21, 29, 30, 31, 32, 63, 64, 65, 1000, impl.MaxRow} {
		row := strings.Repeat("0", size)
		for _, at := range []int{0, 1, size / 2, size - 1, size} {
			wantNoCount(t, row, at)
		}
		wantNoCount(t, "1"+row[1:], 1)
	}
}

func TestReadsAtTheEndOfTheLongestRow(t *testing.T) {
	full := strings.Repeat("0", impl.MaxRow-39) + ueRowOf(impl.MaxUe)
	if n, behind, ok := impl.ReadUe(full, impl.MaxRow-39); !ok || n != impl.MaxUe || behind != impl.MaxRow {
		t.Errorf("the greatest number at the end of MaxRow signs: %d, %d, %v", n, behind, ok)
	}
	if n, behind, ok := impl.ReadSe(full, impl.MaxRow-39); !ok || n != -impl.MaxSe || behind != impl.MaxRow {
		t.Errorf("the least number at the end of MaxRow signs: %d, %d, %v", n, behind, ok)
	}
	if n, behind, ok := impl.ReadUe(full, impl.MaxRow-1); !ok || n != 0 || behind != impl.MaxRow {
		t.Errorf("the last of MaxRow signs: %d, %d, %v", n, behind, ok)
	}
	wantNoCount(t, full, 0)
	wantNoCount(t, full, impl.MaxRow)
	wantNoCount(t, full, impl.MaxRow+1)
	long := strings.Repeat("1", impl.MaxRow+1)
	wantNoCount(t, long, 0)
	wantNoCount(t, long, impl.MaxRow)
	wantNoCount(t, long, impl.MaxRow+1)
}

func TestReadsAtFarPlaces(t *testing.T) {
	for _, row := range []string{"", "1", "010", strings.Repeat("1", 50)} {
		for _, at := range []int{math.MinInt, math.MinInt + 1, -1 << 32, -2, -1, len(row), len(row) + 1, len(row) + 2, 1 << 32, math.MaxInt - 1, math.MaxInt} {
			wantNoCount(t, row, at)
		}
	}
}

// The whole row is looked at, not only the signs of the number.
func TestReadsOfNoRow(t *testing.T) {
	for b := range 256 {
		if b == '0' || b == '1' {
			continue
		}
		sign := string([]byte{byte(b)})
		for _, row := range []string{sign, "1" + sign, sign + "1", "01" + sign, "0" + sign + "1", "0" + sign + "10", "11111111111111111" + sign + "1"} {
			for at := range 3 {
				wantNoCount(t, row, at)
			}
		}
	}
}
