package tests

import (
	"fmt"
	"math"
	"slices"
	"strings"
	"testing"

	"loop.example/g00960/impl"
)

func TestSetsLimits(t *testing.T) {
	if impl.MaxSide != 8 || impl.MaxCols != 4 || impl.SquareSide != 8 || impl.MaxQp != 40 {
		t.Error("a constant is not the chapter's")
	}
}

func seqOf(level, bits int, cols, rows []int) impl.Seq {
	return impl.Seq{Level: level, Bits: bits, Cols: cols, Rows: rows}
}

func sameSeq(a, b impl.Seq) bool {
	return a.Level == b.Level && a.Bits == b.Bits && slices.Equal(a.Cols, b.Cols) && slices.Equal(a.Rows, b.Rows)
}

// seqSigns has the numbers of a set in their order, be it right or not: what SeqRow must answer of a right one.
func seqSigns(s impl.Seq) string {
	row := ueRowOf(s.Level) + fmt.Sprintf("%04b", s.Bits)
	for _, list := range [][]int{s.Cols, s.Rows} {
		row += ueRowOf(len(list))
		for _, n := range list {
			row += ueRowOf(n)
		}
	}
	return row
}

func wantNoSeq(t *testing.T, row string, at int) {
	t.Helper()
	if s, behind, ok := impl.ReadSeq(row, at); ok || behind != 0 || !sameSeq(s, impl.Seq{}) {
		t.Errorf("ReadSeq of %d signs %.60q at %d: %v, %d, %v; want a refusal", len(row), row, at, s, behind, ok)
	}
}

func wantSeqAt(t *testing.T, row string, at int, want impl.Seq, wantBehind int) {
	t.Helper()
	if s, behind, ok := impl.ReadSeq(row, at); !ok || behind != wantBehind || !sameSeq(s, want) {
		t.Errorf("ReadSeq of %d signs %.60q at %d: %v, %d, %v; want %v, %d", len(row), row, at, s, behind, ok, want, wantBehind)
	}
}

func wantNoPar(t *testing.T, row string, at int) {
	t.Helper()
	if p, behind, ok := impl.ReadPar(row, at); ok || behind != 0 || p != (impl.Par{}) {
		t.Errorf("ReadPar of %d signs %.60q at %d: %v, %d, %v; want a refusal", len(row), row, at, p, behind, ok)
	}
}

func wantParAt(t *testing.T, row string, at int, want impl.Par, wantBehind int) {
	t.Helper()
	if p, behind, ok := impl.ReadPar(row, at); !ok || behind != wantBehind || p != want {
		t.Errorf("ReadPar of %d signs %.60q at %d: %v, %d, %v; want %v, %d", len(row), row, at, p, behind, ok, want, wantBehind)
	}
}

func TestLevelSquares(t *testing.T) {
	for _, c := range []struct{ level, want int }{
		{1, 16}, {2, 64}, {3, 256},
		{0, 0}, {4, 0}, {5, 0}, {6, 0}, {64, 0}, {1 << 32, 0}, {1<<32 + 1, 0}, {math.MaxInt, 0},
		{-1, 0}, {-2, 0}, {-3, 0}, {-64, 0}, {math.MinInt, 0}, {math.MinInt + 1, 0},
	} {
		if got := impl.LevelSquares(c.level); got != c.want {
			t.Errorf("LevelSquares(%d): %d; want %d", c.level, got, c.want)
		}
	}
}

func TestSquaresOf(t *testing.T) {
	for _, c := range []struct {
		cols, rows []int
		want       int
	}{
		{[]int{1}, []int{1}, 1},
		{[]int{2}, []int{1}, 2},
		{[]int{8}, []int{8}, 64},
		{[]int{3, 4}, []int{5, 1, 2}, 56},
		{[]int{1, 1, 1, 1}, []int{1}, 4},
		{[]int{1}, []int{1, 1, 1, 1}, 4},
		{[]int{8, 8, 8, 8}, []int{8, 8, 8, 8}, 1024},
		{[]int{1, 2, 3, 8}, []int{8, 7, 6, 5}, 364},
	} {
		// What the set says beside its lists is not looked at.
		for _, level := range []int{-1, 0, 1, 3, 4, math.MaxInt} {
			s := seqOf(level, level, c.cols, c.rows)
			if got := impl.SquaresOf(s); got != c.want {
				t.Errorf("SquaresOf(%v): %d; want %d", s, got, c.want)
			}
		}
	}
	if got := impl.SquaresOf(impl.Seq{}); got != 0 {
		t.Errorf("SquaresOf the zero set: %d", got)
	}
}

// wrongLists are those that cut no side: none, too many, and a number that is not in 1 .. MaxSide at each place.
func wrongLists() [][]int {
	lists := [][]int{nil, {}, {1, 1, 1, 1, 1}, {8, 8, 8, 8, 8}, make([]int, 5), slices.Repeat([]int{1}, 1000)}
	for size := 1; size <= impl.MaxCols; size++ {
		for at := range size {
			for _, wrong := range []int{0, impl.MaxSide + 1, -1, -8, 16, 1 << 32, math.MaxInt, math.MinInt, math.MinInt + 1} {
				list := slices.Repeat([]int{3}, size)
				list[at] = wrong
				lists = append(lists, list)
			}
		}
	}
	// Their sums would be those of right ones.
	return append(lists, []int{-1, 3}, []int{9, -1}, []int{8, 0}, []int{math.MaxInt, math.MinInt, 2}, []int{math.MinInt, math.MinInt, 3})
}

func TestListsThatCutNoSide(t *testing.T) {
	for _, wrong := range wrongLists() {
		for _, other := range [][]int{nil, {1}, {2, 1}, {8, 8}, {-1}, wrong} {
			for _, s := range []impl.Seq{seqOf(3, 8, wrong, other), seqOf(3, 8, other, wrong)} {
				if got := impl.SquaresOf(s); got != 0 {
					t.Errorf("SquaresOf(%v): %d; want 0", s, got)
				}
				if impl.SeqOk(s) {
					t.Errorf("SeqOk(%v)", s)
				}
				if row, ok := impl.SeqRow(s); ok || row != "" {
					t.Errorf("SeqRow(%v): %q, %v; want a refusal", s, row, ok)
				}
			}
		}
	}
}

func TestSeqOkAtTheLimitOfEachLevel(t *testing.T) {
	for _, c := range []struct {
		level      int
		cols, rows []int
		want       bool
	}{
		{1, []int{1}, []int{1}, true},
		{1, []int{4}, []int{4}, true},
		{1, []int{2}, []int{8}, true},
		{1, []int{1}, []int{8, 8}, true},
		{1, []int{1, 1, 1, 1}, []int{1, 1, 1, 1}, true},
		{1, []int{1}, []int{8, 8, 1}, false}, // 17
		{1, []int{8, 5, 4}, []int{1}, false},
		{1, []int{3}, []int{6}, false},
		{1, []int{8}, []int{8}, false},
		{2, []int{1}, []int{1}, true},
		{2, []int{8, 8, 1}, []int{1}, true},
		{2, []int{8}, []int{8}, true},
		{2, []int{2, 2}, []int{4, 4, 4, 4}, true},
		{2, []int{8, 5}, []int{5}, false}, // 65
		{2, []int{3, 2}, []int{8, 5}, false},
		{2, []int{8, 8}, []int{8, 8}, false},
		{3, []int{1}, []int{1}, true},
		{3, []int{8, 5}, []int{5}, true},
		{3, []int{8, 8}, []int{8, 8}, true},
		{3, []int{8}, []int{8, 8, 8, 8}, true},
		{3, []int{4, 4, 4, 4}, []int{4, 4, 4, 4}, true},
		{3, []int{8, 5}, []int{8, 8, 4}, false}, // 260 is the least above 256 that two sides make
		{3, []int{8, 2}, []int{8, 8, 8, 2}, false},
		{3, []int{8, 8, 8, 8}, []int{8, 8, 8, 8}, false},
		{0, []int{1}, []int{1}, false},
		{4, []int{1}, []int{1}, false},
		{-1, []int{1}, []int{1}, false},
		{math.MaxInt, []int{1}, []int{1}, false},
		{math.MinInt, []int{1}, []int{1}, false},
	} {
		for bits := 3; bits <= 8; bits++ {
			s := seqOf(c.level, bits, c.cols, c.rows)
			if got := impl.SeqOk(s); got != c.want {
				t.Errorf("SeqOk(%v): %v", s, got)
			}
			if row, ok := impl.SeqRow(s); ok != c.want || !c.want && row != "" || c.want && row != seqSigns(s) {
				t.Errorf("SeqRow(%v): %q, %v", s, row, ok)
			}
		}
	}
}

func TestSeqOkOfBits(t *testing.T) {
	for _, bits := range []int{math.MinInt, -8, -1, 0, 1, 2, 3, 4, 5, 6, 7, 8, 9, 10, 15, 16, 19, 1<<32 + 3, math.MaxInt} {
		s := seqOf(2, bits, []int{2, 1}, []int{3})
		right := bits >= 3 && bits <= 8
		if got := impl.SeqOk(s); got != right {
			t.Errorf("SeqOk(%v): %v", s, got)
		}
		if row, ok := impl.SeqRow(s); ok != right || !right && row != "" {
			t.Errorf("SeqRow(%v): %q, %v", s, row, ok)
		}
	}
	if impl.SeqOk(impl.Seq{}) {
		t.Error("the zero set is right")
	}
}

func TestSeqRow(t *testing.T) {
	for _, c := range []struct {
		s    impl.Seq
		want string
	}{
		{seqOf(1, 3, []int{2}, []int{1}), "010" + "0011" + "010" + "011" + "010" + "010"},
		{seqOf(1, 8, []int{1}, []int{1}), "010" + "1000" + "010" + "010" + "010" + "010"},
		{seqOf(2, 5, []int{3, 8}, []int{4}), "011" + "0101" + "011" + "00100" + "0001001" + "010" + "00101"},
		{seqOf(3, 7, []int{5}, []int{7, 6, 1, 2}), "00100" + "0111" + "010" + "00110" + "00101" + "0001000" + "00111" + "010" + "011"},
		{seqOf(3, 4, []int{1, 2, 1, 1}, []int{1, 1, 2}), "00100" + "0100" + "00101" + "010" + "011" + "010" + "010" + "00100" + "010" + "010" + "011"},
	} {
		if got, ok := impl.SeqRow(c.s); !ok || got != c.want {
			t.Errorf("SeqRow(%v): %q, %v; want %q", c.s, got, ok, c.want)
		}
		wantSeqAt(t, c.want, 0, c.s, len(c.want))
	}
}

// everyList has each list of up to most of the numbers.
func everyList(numbers []int, most int) [][]int {
	lists := [][]int{}
	longest := [][]int{{}}
	for range most {
		longer := [][]int{}
		for _, list := range longest {
			for _, n := range numbers {
				longer = append(longer, append(slices.Clone(list), n))
			}
		}
		lists = append(lists, longer...)
		longest = longer
	}
	return lists
}

func sumOf(list []int) int {
	sum := 0
	for _, n := range list {
		sum += n
	}
	return sum
}

// checkSeq holds a set with good lists to the limit of its level, and a right one to coming back from the middle of a row.
func checkSeq(t *testing.T, s impl.Seq) {
	t.Helper()
	squares := sumOf(s.Cols) * sumOf(s.Rows)
	most := []int{0, 16, 64, 256, 0}[s.Level]
	right := squares <= most
	if impl.SquaresOf(s) != squares || impl.SeqOk(s) != right {
		t.Fatalf("%v has %d squares: SquaresOf %d, SeqOk %v", s, squares, impl.SquaresOf(s), impl.SeqOk(s))
	}
	row, ok := impl.SeqRow(s)
	if !right {
		if ok || row != "" {
			t.Fatalf("SeqRow(%v): %q, %v; want a refusal", s, row, ok)
		}
		wantNoSeq(t, seqSigns(s), 0)
		return
	}
	if !ok || row != seqSigns(s) {
		t.Fatalf("SeqRow(%v): %q, %v; want %q", s, row, ok, seqSigns(s))
	}
	wantSeqAt(t, row, 0, s, len(row))
	wantSeqAt(t, "0100"+row+"01", 4, s, 4+len(row))
}

func TestRightSetsComeBack(t *testing.T) {
	lists := everyList([]int{1, 3, 8}, impl.MaxCols)
	for i, cols := range lists {
		for k, rows := range lists {
			for level := 0; level <= 4; level++ {
				checkSeq(t, seqOf(level, 3+(i+k)%6, cols, rows))
			}
		}
	}
	for i, list := range everyList([]int{1, 2, 3, 4, 5, 6, 7, 8}, impl.MaxCols) {
		checkSeq(t, seqOf(3, 3+i%6, list, []int{2, 3}))
		checkSeq(t, seqOf(3, 3+i%6, []int{2, 3}, list))
	}
}

// shortSeqs are the right sets of this level and these bits whose lists take at most so many signs, by their rows.
func shortSeqs(level, bits, most int) map[string]impl.Seq {
	seqs := map[string]impl.Seq{}
	if bits < 3 || bits > 8 {
		return seqs
	}
	lists := everyList([]int{1, 2, 3, 4, 5, 6, 7, 8}, 2)
	for _, cols := range lists {
		for _, rows := range lists {
			s := seqOf(level, bits, cols, rows)
			row := seqSigns(s)
			ahead := len(ueRowOf(level)) + 4
			if sumOf(cols)*sumOf(rows) <= []int{0, 16, 64, 256, 0}[level] && len(row)-ahead <= most {
				seqs[row] = s
			}
		}
	}
	return seqs
}

// With three numbers or more in a list, both take more than fifteen signs.
func TestReadSeqOfEachShortRow(t *testing.T) {
	const most = 15
	for level := 0; level <= 4; level++ {
		for _, bits := range []int{2, 3, 8, 9} {
			seqs := shortSeqs(level, bits, most)
			seen := 0
			ahead := ueRowOf(level) + fmt.Sprintf("%04b", bits)
			everyText("01", most, func(lists string) {
				row := ahead + lists
				for size := len(ahead); size <= len(row); size++ {
					if want, there := seqs[row[:size]]; there {
						wantSeqAt(t, row, 0, want, size)
						seen++
						return
					}
				}
				wantNoSeq(t, row, 0)
			})
			if seen < len(seqs) {
				t.Errorf("level %d, bits %d: %d rows of %d", level, bits, seen, len(seqs))
			}
		}
	}
}

func someSeqs() []impl.Seq {
	return []impl.Seq{
		seqOf(1, 3, []int{1}, []int{1}),
		seqOf(1, 8, []int{4}, []int{2, 2}),
		seqOf(2, 5, []int{8}, []int{1, 2, 3, 2}),
		seqOf(3, 4, []int{8, 8}, []int{8, 8}),
		seqOf(3, 7, []int{2, 1, 7, 5}, []int{3, 6, 4, 4}),
	}
}

func TestReadSeqAtEachPlaceOfALongerRow(t *testing.T) {
	for _, s := range someSeqs() {
		row := seqSigns(s)
		for _, ahead := range []string{"", "0", "1", "00000", longRow(100), strings.Repeat("1", 1000)} {
			for _, behind := range []string{"", "0", "1", "11111", longRow(77), row} {
				wantSeqAt(t, ahead+row+behind, len(ahead), s, len(ahead)+len(row))
			}
		}
	}
	row := ""
	for _, s := range append(someSeqs(), someSeqs()...) {
		row += seqSigns(s)
	}
	at := 0
	for _, want := range append(someSeqs(), someSeqs()...) {
		s, behind, ok := impl.ReadSeq(row, at)
		if !ok || !sameSeq(s, want) || behind != at+len(seqSigns(want)) {
			t.Fatalf("ReadSeq at %d of many sets: %v, %d, %v; want %v", at, s, behind, ok, want)
		}
		at = behind
	}
	wantNoSeq(t, row, at)
}

func TestReadSeqOfARowThatIsCutShort(t *testing.T) {
	for _, s := range someSeqs() {
		row := seqSigns(s)
		for size := range len(row) {
			wantNoSeq(t, row[:size], 0)
			wantNoSeq(t, "101"+row[:size], 3)
		}
	}
}

func TestReadSeqOfASetThatIsNotRight(t *testing.T) {
	behind := strings.Repeat("010", 30)
	right := seqOf(3, 5, []int{2, 3}, []int{1, 4})
	wantSeqAt(t, seqSigns(right)+behind, 0, right, len(seqSigns(right)))
	wrong := []impl.Seq{}
	for _, level := range []int{0, 4, 5, 7, 255, 256, impl.MaxUe} {
		wrong = append(wrong, seqOf(level, 5, []int{2, 3}, []int{1, 4}))
	}
	for _, bits := range []int{0, 1, 2, 9, 10, 11, 12, 13, 14, 15} {
		wrong = append(wrong, seqOf(3, bits, []int{2, 3}, []int{1, 4}))
	}
	for _, list := range [][]int{
		{}, {1, 1, 1, 1, 1}, {8, 8, 8, 8, 8}, slices.Repeat([]int{1}, 30), {0}, {9}, {0, 1}, {1, 0}, {1, 9}, {9, 1}, {1, 1, 1, 0}, {1, 1, 1, 9},
		{impl.MaxUe}, {1, impl.MaxUe}, {256}, {257},
	} {
		wrong = append(wrong, seqOf(3, 5, list, []int{1, 4}), seqOf(3, 5, []int{1, 4}, list), seqOf(3, 5, list, list))
	}
	wrong = append(wrong, seqOf(1, 5, []int{8, 8, 1}, []int{1}), seqOf(2, 5, []int{8, 5}, []int{5}), seqOf(3, 5, []int{8, 5}, []int{8, 8, 4}))
	for _, s := range wrong {
		row := seqSigns(s)
		wantNoSeq(t, row, 0)
		wantNoSeq(t, row+behind, 0)
		wantNoSeq(t, "11"+row+behind, 2)
	}
}

// The counts are told, but what they count is not of that number.
func TestReadSeqOfCountsThatAreNotRight(t *testing.T) {
	ahead := ueRowOf(3) + "0101"
	for _, count := range []int{0, 5, 6, 1000, impl.MaxUe, impl.MaxUe + 1, 1<<30 - 1, math.MaxInt - 1} {
		for _, behind := range []string{"", "010", strings.Repeat("010", 4), strings.Repeat("010", 5), strings.Repeat("010", 2000), strings.Repeat("1", 2000), strings.Repeat("0", 2000)} {
			wantNoSeq(t, ahead+ueRowOf(count)+behind, 0)
			wantNoSeq(t, ahead+"010"+"010"+ueRowOf(count)+behind, 0)
		}
	}
	for _, count := range []int{1, 2, 3, 4} {
		list := strings.Repeat("010", count)
		want := seqOf(3, 5, slices.Repeat([]int{1}, count), slices.Repeat([]int{1}, count))
		row := ahead + ueRowOf(count) + list + ueRowOf(count) + list
		wantSeqAt(t, row, 0, want, len(row))
		wantNoSeq(t, row[:len(row)-3], 0)
	}
}

func TestSetsAtFarPlaces(t *testing.T) {
	seq := seqSigns(someSeqs()[0])
	par := "000101011"
	for _, row := range []string{"", "1", seq, par, seq + seq, par + par, strings.Repeat("010", 20)} {
		for _, at := range []int{
			math.MinInt, math.MinInt + 1, -1 << 32, -len(row) - 1, -len(row) - 2, -2, -1,
			len(row), len(row) + 1, len(row) + 2, 1 << 32, math.MaxInt - 8, math.MaxInt - 1, math.MaxInt,
		} {
			wantNoSeq(t, row, at)
			wantNoPar(t, row, at)
		}
	}
}

// The whole row is looked at, not only the signs of the set.
func TestSetsInNoRow(t *testing.T) {
	seq := seqSigns(someSeqs()[1])
	par := "101000001"
	for b := range 256 {
		if b == '0' || b == '1' {
			continue
		}
		sign := string([]byte{byte(b)})
		for _, set := range []string{seq, par} {
			for at := range len(set) {
				wantNoSeq(t, set[:at]+sign+set[at+1:], 0)
				wantNoPar(t, set[:at]+sign+set[at+1:], 0)
			}
			for _, ahead := range []string{"", "0", "1"} {
				wantNoSeq(t, ahead+set+sign, len(ahead))
				wantNoPar(t, ahead+set+sign, len(ahead))
				wantNoSeq(t, sign+ahead+set, 1+len(ahead))
				wantNoPar(t, sign+ahead+set, 1+len(ahead))
				wantNoSeq(t, ahead+set+"10"+sign+"1", len(ahead))
				wantNoPar(t, ahead+set+"10"+sign+"1", len(ahead))
			}
		}
	}
}

func TestSetsInTheLongestRow(t *testing.T) {
	s := someSeqs()[4]
	seq := seqSigns(s)
	p := impl.Par{Qp: 40, Large: true, Confined: true}
	par := "101000101"
	full := longRow(impl.MaxRow)
	wantSeqAt(t, full[len(seq):]+seq, impl.MaxRow-len(seq), s, impl.MaxRow)
	wantSeqAt(t, seq+full[len(seq):], 0, s, len(seq))
	wantParAt(t, full[len(par):]+par, impl.MaxRow-len(par), p, impl.MaxRow)
	wantParAt(t, par+full[len(par):], 0, p, len(par))
	wantNoSeq(t, full[len(seq)-1:]+seq, impl.MaxRow+1-len(seq))
	wantNoSeq(t, seq+full[len(seq)-1:], 0)
	wantNoPar(t, full[len(par)-1:]+par, impl.MaxRow+1-len(par))
	wantNoPar(t, par+full[len(par)-1:], 0)
}

func parSigns(p impl.Par) string {
	row := fmt.Sprintf("%06b", p.Qp)
	for _, flag := range []bool{p.Large, p.Exact, p.Confined} {
		if flag {
			row += "1"
		} else {
			row += "0"
		}
	}
	return row
}

func parOf(qp, flags int) impl.Par {
	return impl.Par{Qp: qp, Large: flags&4 != 0, Exact: flags&2 != 0, Confined: flags&1 != 0}
}

func TestEachPar(t *testing.T) {
	for qp := -3; qp <= 70; qp++ {
		for flags := range 8 {
			p := parOf(qp, flags)
			right := qp >= 0 && qp <= 40 && flags < 6
			if impl.ParOk(p) != right {
				t.Errorf("ParOk(%v): %v", p, !right)
			}
			row, ok := impl.ParRow(p)
			if !right {
				if ok || row != "" {
					t.Errorf("ParRow(%v): %q, %v; want a refusal", p, row, ok)
				}
				continue
			}
			if !ok || row != parSigns(p) {
				t.Errorf("ParRow(%v): %q, %v; want %q", p, row, ok, parSigns(p))
			}
			wantParAt(t, row, 0, p, 9)
			wantParAt(t, "01"+row+"1", 2, p, 11)
			wantParAt(t, longRow(500)+row, 500, p, 509)
		}
	}
	for _, qp := range []int{math.MinInt, math.MinInt + 1, -64, -40, 1 << 32, 1<<32 + 5, math.MaxInt} {
		for flags := range 8 {
			p := parOf(qp, flags)
			if row, ok := impl.ParRow(p); ok || row != "" || impl.ParOk(p) {
				t.Errorf("ParRow(%v): %q, %v, ParOk %v; want a refusal", p, row, ok, impl.ParOk(p))
			}
		}
	}
}

func TestParRow(t *testing.T) {
	for _, c := range []struct {
		p    impl.Par
		want string
	}{
		{impl.Par{}, "000000000"},
		{impl.Par{Qp: 5, Exact: true, Confined: true}, "000101011"},
		{impl.Par{Qp: 1, Large: true}, "000001100"},
		{impl.Par{Qp: 32, Exact: true}, "100000010"},
		{impl.Par{Qp: 40, Confined: true}, "101000001"},
		{impl.Par{Qp: 40, Large: true, Confined: true}, "101000101"},
	} {
		if got, ok := impl.ParRow(c.p); !ok || got != c.want {
			t.Errorf("ParRow(%v): %q, %v; want %q", c.p, got, ok, c.want)
		}
		wantParAt(t, c.want, 0, c.p, 9)
	}
}

func TestReadParAtEachPlaceOfEachRow(t *testing.T) {
	pars := map[string]impl.Par{}
	for qp := range 41 {
		for flags := range 6 {
			pars[parSigns(parOf(qp, flags))] = parOf(qp, flags)
		}
	}
	everyText("01", 12, func(row string) {
		for at := -1; at <= len(row)+1; at++ {
			if at >= 0 && at+9 <= len(row) {
				if want, there := pars[row[at:at+9]]; there {
					wantParAt(t, row, at, want, at+9)
					continue
				}
			}
			wantNoPar(t, row, at)
		}
	})
}

func TestSetsLeaveTheirLists(t *testing.T) {
	room := []int{2, 1, 3, 5, 77, 78, 79}
	before := slices.Clone(room)
	for _, s := range []impl.Seq{
		seqOf(3, 4, room[:2], room[2:3]), seqOf(3, 4, room[:1], room[:1]), seqOf(1, 9, room[:2], room[2:4]), seqOf(3, 4, room, room[:0]),
	} {
		impl.SquaresOf(s)
		impl.SeqOk(s)
		impl.SeqRow(s)
		if !slices.Equal(room, before) {
			t.Fatalf("a list was written into: %v", room)
		}
	}
}

func TestALaterChangeOfAListChangesNoAnswer(t *testing.T) {
	cols, rows := []int{2, 1}, []int{3}
	s := seqOf(1, 4, cols, rows)
	row, _ := impl.SeqRow(s)
	cols[0], rows[0] = 8, 9
	if row != seqSigns(seqOf(1, 4, []int{2, 1}, []int{3})) {
		t.Errorf("SeqRow's answer has changed: %q", row)
	}
	want := seqOf(1, 4, []int{2, 1}, []int{3})
	first, _, _ := impl.ReadSeq(row, 0)
	second, _, _ := impl.ReadSeq(row, 0)
	// A list that reached into another one's memory would show it behind its end, too.
	for _, list := range []*[]int{&first.Cols, &first.Rows} {
		others := []*[]int{&first.Cols, &first.Rows, &second.Cols, &second.Rows}
		kept := [][]int{}
		for _, other := range others {
			kept = append(kept, slices.Clone(*other))
		}
		whole := (*list)[:cap(*list)]
		for i := range whole {
			whole[i] = 99
		}
		for i, other := range others {
			if other != list && !slices.Equal(*other, kept[i]) {
				t.Errorf("a change of one list has changed another: %v", *other)
			}
		}
	}
	wantSeqAt(t, row, 0, want, len(row))
	if !sameSeq(second, want) {
		t.Errorf("ReadSeq's other answer has changed: %v", second)
	}
}
