package tests

import (
	"fmt"
	"math"
	"slices"
	"strings"
	"testing"

	"loop.example/g00960/impl"
)

func TestHeadsKinds(t *testing.T) {
	if impl.UnInter != 1 || impl.UnKey != 5 || impl.UnSeq != 7 || impl.UnPar != 8 {
		t.Error("a constant is not the chapter's")
	}
}

func unitKinds() []int { return []int{1, 5, 7, 8} }

func byteText(b int) string { return string([]byte{byte(b)}) }

// rowsAroundBytes have lengths on both sides of a whole byte, and none at all.
func rowsAroundBytes() []string {
	rows := []string{}
	for size := range 26 {
		rows = append(rows, longRow(size), strings.Repeat("0", size), strings.Repeat("1", size))
	}
	return rows
}

func wantUnit(t *testing.T, kind int, row string, want string) {
	t.Helper()
	unit, ok := impl.UnitOf(kind, row)
	if !ok || unit != want {
		t.Fatalf("UnitOf(%d, %d signs %.40q): %d bytes %.20q, %v; want %.20q", kind, len(row), row, len(unit), unit, ok, want)
	}
	if k, r, ok := impl.UnitIn(unit); !ok || k != kind || r != row {
		t.Fatalf("UnitIn(%.20q): %d, %d signs %.40q, %v; want %d, %.40q", unit, k, len(r), r, ok, kind, row)
	}
}

func wantNoUnitOf(t *testing.T, kind int, row string) {
	t.Helper()
	if unit, ok := impl.UnitOf(kind, row); ok || unit != "" {
		t.Errorf("UnitOf(%d, %d signs %.40q): %d bytes %.20q, %v; want a refusal", kind, len(row), row, len(unit), unit, ok)
	}
}

func wantNoUnitIn(t *testing.T, unit string) {
	t.Helper()
	if kind, row, ok := impl.UnitIn(unit); ok || kind != 0 || row != "" {
		t.Errorf("UnitIn of %d bytes %.20q: %d, %d signs, %v; want a refusal", len(unit), unit, kind, len(row), ok)
	}
}

func TestUnitOf(t *testing.T) {
	for _, c := range []struct {
		kind      int
		row, want string
	}{
		{impl.UnInter, "", "\x01\x80"},
		{impl.UnKey, "101", "\x05\xb0"},
		{impl.UnSeq, "0", "\x07\x40"},
		{impl.UnPar, "000101011", "\x08\x15\xc0"},
		{impl.UnInter, "0000000", "\x01\x01"},
		{impl.UnKey, "1111111", "\x05\xff"},
		{impl.UnSeq, "00000000", "\x07\x00\x80"},
		{impl.UnPar, "000000000000000", "\x08\x00\x01"},
	} {
		wantUnit(t, c.kind, c.row, c.want)
	}
}

func TestUnitsOfEachKindComeBack(t *testing.T) {
	rows := rowsAroundBytes()
	everyText("01", 10, func(row string) { rows = append(rows, row) })
	for _, kind := range unitKinds() {
		for _, row := range rows {
			wantUnit(t, kind, row, byteText(kind)+bytesOf(row))
		}
	}
}

func TestUnitsOfTheLongestRow(t *testing.T) {
	for _, kind := range unitKinds() {
		for _, size := range []int{impl.MaxRow - 8, impl.MaxRow - 7, impl.MaxRow - 1, impl.MaxRow} {
			wantUnit(t, kind, longRow(size), byteText(kind)+bytesOf(longRow(size)))
		}
		wantNoUnitOf(t, kind, longRow(impl.MaxRow+1))
		full := byteText(kind) + strings.Repeat("\xa5", impl.MaxRow/8)
		if k, row, ok := impl.UnitIn(full + "\x80"); !ok || k != kind || len(row) != impl.MaxRow {
			t.Errorf("UnitIn of MaxRow signs: %d, %d signs, %v", k, len(row), ok)
		}
		for _, behind := range []string{"\x40", "\x81", "\xc0", "\x01", "\x00", "\x80\x80", "\x80\x00", "\x00\x80"} {
			wantNoUnitIn(t, full+behind)
		}
	}
}

func TestUnitOfAKindThatIsNone(t *testing.T) {
	kinds := farNumbers()
	for kind := -20; kind <= 300; kind++ {
		if !slices.Contains(unitKinds(), kind) {
			kinds = append(kinds, kind)
		}
	}
	// Their lowest bits are those of a kind.
	for _, kind := range unitKinds() {
		for _, far := range []int{1 << 8, 1 << 16, 1 << 31, 1 << 32, 1 << 62, math.MinInt} {
			kinds = append(kinds, kind+far, kind-far)
		}
		kinds = append(kinds, -kind)
	}
	for _, kind := range kinds {
		for _, row := range []string{"", "1", "101", "00000000", longRow(100)} {
			wantNoUnitOf(t, kind, row)
		}
		wantNoUnitOf(t, kind, "2")
	}
}

func TestUnitOfNoRow(t *testing.T) {
	wrong := []string{"2", "01 ", " 01", "0a1", "/", "\x00", "\x01", "\xff", "01\n", "-", "\u0661", longRow(impl.MaxRow-1) + "x", longRow(2 * impl.MaxRow)}
	for b := range 256 {
		if b != '0' && b != '1' {
			wrong = append(wrong, byteText(b), "1010"+byteText(b), byteText(b)+"0101", "0"+byteText(b)+"1")
		}
	}
	for _, kind := range unitKinds() {
		for _, row := range wrong {
			wantNoUnitOf(t, kind, row)
		}
	}
}

// bitsOf has eight signs for each byte.
func bitsOf(text string) string {
	signs := ""
	for i := range len(text) {
		signs += fmt.Sprintf("%08b", text[i])
	}
	return signs
}

// The last sign 1 ends the row, so a last byte of 0 ends none.
func TestUnitInEachFirstAndLastByte(t *testing.T) {
	for first := range 256 {
		for last := range 256 {
			for _, between := range []string{"", "\x00", "\xff", "\x00\x80"} {
				unit := byteText(first) + between + byteText(last)
				if last == 0 || !slices.Contains(unitKinds(), first) {
					wantNoUnitIn(t, unit)
					continue
				}
				signs := bitsOf(between + byteText(last))
				want := signs[:strings.LastIndexByte(signs, '1')]
				if kind, row, ok := impl.UnitIn(unit); !ok || kind != first || row != want {
					t.Fatalf("UnitIn(%q): %d, %q, %v; want %d, %q", unit, kind, row, ok, first, want)
				}
			}
		}
	}
}

func TestUnitInRefuses(t *testing.T) {
	wantNoUnitIn(t, "")
	for b := range 256 {
		wantNoUnitIn(t, byteText(b))
	}
	for _, kind := range unitKinds() {
		for _, rest := range []string{"\x00", "\x00\x00", "\x80\x00", "\xff\xff\x00", allBytes() + "\x00", strings.Repeat("\x80", impl.MaxRow)} {
			wantNoUnitIn(t, byteText(kind)+rest)
		}
		// The kind as a figure is not the byte.
		wantNoUnitIn(t, fmt.Sprint(kind)+"\x80")
		wantNoUnitIn(t, "\x00"+byteText(kind)+"\x80")
	}
}

func TestUnitsThatComeOutAreThoseOfTheirKindAndRow(t *testing.T) {
	everyText("\x00\x01\x05\x07\x08\x80\xff\x02", 4, func(unit string) {
		kind, row, ok := impl.UnitIn(unit)
		if !ok {
			return
		}
		if again, ok := impl.UnitOf(kind, row); !ok || again != unit {
			t.Fatalf("UnitIn(%q): %d, %q, whose unit is %q, %v", unit, kind, row, again, ok)
		}
	})
}

func headOf(tile, frame, qp int) impl.Head { return impl.Head{Tile: tile, Frame: frame, Qp: qp} }

func seRowOf(n int) string {
	if n > 0 {
		return ueRowOf(2*n - 1)
	}
	return ueRowOf(-2 * n)
}

// headSigns has the numbers of a head as they would be written, be it right or not.
func headSigns(bits, qp int, h impl.Head) string {
	frame := ""
	if bits > 0 {
		frame = fmt.Sprintf("%0*b", bits, h.Frame)
	}
	return ueRowOf(h.Tile) + frame + seRowOf(h.Qp-qp)
}

func rightPars() []impl.Par {
	return []impl.Par{parOf(0, 0), parOf(1, 1), parOf(5, 2), parOf(20, 3), parOf(26, 4), parOf(39, 5), parOf(40, 1)}
}

func wrongPars() []impl.Par {
	pars := []impl.Par{parOf(0, 6), parOf(20, 6), parOf(40, 7)}
	for _, qp := range []int{math.MinInt, math.MinInt + 1, -1 << 32, -41, -40, -2, -1, 41, 42, 63, 64, 80, 81, 1 << 32, 1<<32 + 5, math.MaxInt - 1, math.MaxInt} {
		pars = append(pars, parOf(qp, 0), parOf(qp, 5), parOf(qp, 7))
	}
	return pars
}

func wantNoHead(t *testing.T, s impl.Seq, p impl.Par, row string) {
	t.Helper()
	if h, behind, ok := impl.ReadHead(s, p, row); ok || behind != 0 || h != (impl.Head{}) {
		t.Errorf("ReadHead(%v, %v, %d signs %.60q): %v, %d, %v; want a refusal", s, p, len(row), row, h, behind, ok)
	}
}

func wantHead(t *testing.T, s impl.Seq, p impl.Par, row string, want impl.Head, wantBehind int) {
	t.Helper()
	if h, behind, ok := impl.ReadHead(s, p, row); !ok || behind != wantBehind || h != want {
		t.Fatalf("ReadHead(%v, %v, %d signs %.60q): %v, %d, %v; want %v, %d", s, p, len(row), row, h, behind, ok, want, wantBehind)
	}
}

// checkHead holds HeadOk and HeadRow to what is told, and a right head to coming back.
func checkHead(t *testing.T, s impl.Seq, p impl.Par, h impl.Head, right bool) {
	t.Helper()
	if got := impl.HeadOk(s, p, h); got != right {
		t.Fatalf("HeadOk(%v, %v, %v): %v", s, p, h, got)
	}
	row, ok := impl.HeadRow(s, p, h)
	if !right {
		if ok || row != "" {
			t.Fatalf("HeadRow(%v, %v, %v): %q, %v; want a refusal", s, p, h, row, ok)
		}
		return
	}
	if want := headSigns(s.Bits, p.Qp, h); !ok || row != want {
		t.Fatalf("HeadRow(%v, %v, %v): %q, %v; want %q", s, p, h, row, ok, want)
	}
	wantHead(t, s, p, row, h, len(row))
	wantHead(t, s, p, row+"0", h, len(row))
	wantHead(t, s, p, row+"1011", h, len(row))
}

func TestHeadRow(t *testing.T) {
	one := seqOf(1, 3, []int{2}, []int{1})
	six := seqOf(2, 8, []int{3, 1, 2}, []int{1, 4})
	for _, c := range []struct {
		s    impl.Seq
		p    impl.Par
		h    impl.Head
		want string
	}{
		{one, impl.Par{Qp: 5}, headOf(0, 6, 7), "1" + "110" + "00100"},
		{one, impl.Par{Qp: 5}, headOf(0, 6, 3), "1" + "110" + "00101"},
		{one, impl.Par{Qp: 5}, headOf(0, 6, 6), "1" + "110" + "010"},
		{one, impl.Par{Qp: 5}, headOf(0, 6, 4), "1" + "110" + "011"},
		{one, impl.Par{Qp: 5}, headOf(0, 0, 5), "1" + "000" + "1"},
		{one, impl.Par{Qp: 0}, headOf(0, 7, 40), "1" + "111" + "0000001010000"},
		{one, impl.Par{Qp: 40}, headOf(0, 7, 0), "1" + "111" + "0000001010001"},
		{six, impl.Par{Qp: 9, Large: true}, headOf(5, 1, 9), "00110" + "00000001" + "1"},
		{six, impl.Par{Qp: 9, Exact: true, Confined: true}, headOf(3, 255, 12), "00100" + "11111111" + "00110"},
	} {
		if got, ok := impl.HeadRow(c.s, c.p, c.h); !ok || got != c.want {
			t.Errorf("HeadRow(%v, %v, %v): %q, %v; want %q", c.s, c.p, c.h, got, ok, c.want)
		}
		wantHead(t, c.s, c.p, c.want, c.h, len(c.want))
		wantHead(t, c.s, c.p, c.want+longRow(50), c.h, len(c.want))
	}
}

func TestHeadsAtEachLimit(t *testing.T) {
	for _, s := range gridSeqs() {
		lastTile := len(s.Cols)*len(s.Rows) - 1
		lastFrame := []int{0, 0, 0, 7, 15, 31, 63, 127, 255}[s.Bits]
		for _, p := range rightPars() {
			for _, tile := range []int{-1, 0, lastTile / 2, lastTile, lastTile + 1} {
				for _, frame := range []int{-1, 0, 1, lastFrame / 2, lastFrame, lastFrame + 1} {
					for _, qp := range []int{-1, 0, 1, p.Qp, 39, 40, 41} {
						right := tile >= 0 && tile <= lastTile && frame >= 0 && frame <= lastFrame && qp >= 0 && qp <= 40
						checkHead(t, s, p, headOf(tile, frame, qp), right)
					}
				}
			}
			for _, far := range farNumbers() {
				checkHead(t, s, p, headOf(far, 0, 0), false)
				checkHead(t, s, p, headOf(0, far, 0), false)
				checkHead(t, s, p, headOf(0, 0, far), false)
				checkHead(t, s, p, headOf(far, far, far), false)
			}
		}
	}
}

func TestEachFrameOfEachNumberOfBits(t *testing.T) {
	p := parOf(7, 1)
	for bits := 3; bits <= 8; bits++ {
		s := seqOf(1, bits, []int{1, 2}, []int{2, 1})
		for frame := -2; frame <= 520; frame++ {
			checkHead(t, s, p, headOf(2, frame, 9), frame >= 0 && frame < 1<<bits)
		}
	}
}

func TestEachDifferenceOfQp(t *testing.T) {
	s := seqOf(1, 4, []int{1, 2}, []int{2, 1})
	for from := range 41 {
		for to := -41; to <= 82; to++ {
			checkHead(t, s, parOf(from, from%6), headOf(1, 9, to), to >= 0 && to <= 40)
		}
	}
}

func TestHeadsByASetOrAParThatIsNotRight(t *testing.T) {
	right := seqOf(1, 3, []int{2, 1}, []int{1, 2})
	for _, h := range []impl.Head{{}, headOf(0, 1, 20), headOf(1, 7, 40), headOf(-1, -1, -1)} {
		for _, s := range wrongSeqs() {
			checkHead(t, s, parOf(20, 1), h, false)
			checkHead(t, s, parOf(-1, 6), h, false)
		}
		for _, p := range wrongPars() {
			checkHead(t, right, p, h, false)
		}
	}
}

func TestReadHeadByASetOrAParThatIsNotRight(t *testing.T) {
	right := seqOf(1, 3, []int{2, 1}, []int{1, 2})
	h := headOf(1, 5, 20)
	for _, s := range wrongSeqs() {
		for _, row := range []string{"", headSigns(3, 20, h), headSigns(8, 20, h) + "1", strings.Repeat("1", 60), longRow(60)} {
			wantNoHead(t, s, parOf(20, 1), row)
		}
	}
	// The signs of such a frame would be there.
	for _, bits := range []int{0, 1, 2, 9, 10, 16, 30} {
		wantNoHead(t, seqOf(1, bits, right.Cols, right.Rows), parOf(20, 1), headSigns(bits, 20, headOf(1, 0, 20)))
	}
	for _, p := range wrongPars() {
		rows := []string{"", headSigns(3, 20, h), "1" + "101" + "1", strings.Repeat("1", 60), longRow(60)}
		// The difference would bring the head's Qp to a right one.
		for _, difference := range []int{-81, -42, -41, -40, -2, -1, 0, 1, 2, 40, 41, 42} {
			rows = append(rows, "010"+"101"+seRowOf(difference))
		}
		for _, row := range rows {
			wantNoHead(t, right, p, row)
		}
	}
}

func TestReadHeadOfATileThatIsNone(t *testing.T) {
	for _, s := range gridSeqs() {
		p := parOf(11, 1)
		tiles := len(s.Cols) * len(s.Rows)
		for tile := range tiles + 20 {
			row := headSigns(s.Bits, p.Qp, headOf(tile, 3, 10))
			if tile < tiles {
				wantHead(t, s, p, row+"01", headOf(tile, 3, 10), len(row))
			} else {
				wantNoHead(t, s, p, row)
				wantNoHead(t, s, p, row+"01")
			}
		}
		for _, tile := range []int{255, 256, 1 << 16, impl.MaxUe, impl.MaxUe + 1, 1<<30 - 1, 1 << 30, 1 << 32, 1 << 62} {
			wantNoHead(t, s, p, headSigns(s.Bits, p.Qp, headOf(tile, 3, 10))+longRow(200))
		}
	}
}

func TestReadHeadOfAQpThatIsNone(t *testing.T) {
	s := seqOf(1, 5, []int{1, 2}, []int{2, 1})
	for from := range 41 {
		p := parOf(from, from%6)
		for to := -90; to <= 130; to++ {
			h := headOf(3, 17, to)
			row := headSigns(5, from, h)
			if to >= 0 && to <= 40 {
				wantHead(t, s, p, row, h, len(row))
			} else {
				wantNoHead(t, s, p, row)
				wantNoHead(t, s, p, row+"1")
			}
		}
		for _, far := range []int{impl.MaxSe, impl.MaxSe + 1, -impl.MaxSe, -impl.MaxSe - 1, 1 << 29, -1 << 29, 1 << 32, -1 << 32, 1 << 61, -1 << 61} {
			wantNoHead(t, s, p, "1"+"00000"+seRowOf(far)+longRow(200))
		}
	}
}

// A frame written in other bits than those of the set is another frame, or none.
func TestReadHeadOfAFrameInOtherBits(t *testing.T) {
	p := parOf(0, 0)
	for written := 3; written <= 8; written++ {
		for bits := 3; bits <= 8; bits++ {
			s := seqOf(1, bits, []int{1}, []int{1})
			row := headSigns(written, 0, headOf(0, 1<<written-1, 1))
			switch {
			case bits == written:
				wantHead(t, s, p, row, headOf(0, 1<<bits-1, 1), len(row))
			case bits < written:
				wantHead(t, s, p, row, headOf(0, 1<<bits-1, 0), 1+bits+1)
			case bits == written+1:
				// The 0 of the difference is the frame's last sign, and 10 is behind it.
				wantHead(t, s, p, row, headOf(0, 1<<bits-2, 0), 1+bits+1)
			default:
				wantNoHead(t, s, p, row)
			}
		}
	}
}

func someHeads(s impl.Seq) []impl.Head {
	tiles, frames := len(s.Cols)*len(s.Rows), 1<<s.Bits
	return []impl.Head{{}, headOf(tiles-1, frames-1, 40), headOf(tiles/2, frames/3, 17), headOf(0, 1, 1), headOf(tiles-1, 0, 39)}
}

func TestHeadsComeBackFromTheirUnits(t *testing.T) {
	rests := append(rowsAroundBytes(), longRow(1000), longRow(7777))
	for _, s := range gridSeqs() {
		for _, p := range rightPars() {
			for i, h := range someHeads(s) {
				head, _ := impl.HeadRow(s, p, h)
				for k, rest := range rests {
					kind := unitKinds()[(i+k)%4]
					unit, ok := impl.UnitOf(kind, head+rest)
					if !ok || unit != byteText(kind)+bytesOf(head+rest) {
						t.Fatalf("UnitOf(%d, %.60q): %.20q, %v", kind, head+rest, unit, ok)
					}
					back, row, ok := impl.UnitIn(unit)
					if !ok || back != kind {
						t.Fatalf("UnitIn(%.20q): %d, %v; want %d", unit, back, ok, kind)
					}
					wantHead(t, s, p, row, h, len(head))
					if row[len(head):] != rest {
						t.Fatalf("behind the head of %v stands %.60q; want %.60q", h, row[len(head):], rest)
					}
				}
			}
		}
	}
}

func TestReadHeadTakesTheFirstOfMany(t *testing.T) {
	for _, s := range gridSeqs() {
		p := parOf(22, 4)
		row := ""
		for _, h := range someHeads(s) {
			row += headSigns(s.Bits, p.Qp, h)
		}
		for _, want := range someHeads(s) {
			h, behind, ok := impl.ReadHead(s, p, row)
			if !ok || h != want || behind != len(headSigns(s.Bits, p.Qp, want)) {
				t.Fatalf("ReadHead(%v, %.60q): %v, %d, %v; want %v", s, row, h, behind, ok, want)
			}
			row = row[behind:]
		}
		wantNoHead(t, s, p, row)
	}
}

func TestReadHeadOfARowThatEndsWithinIt(t *testing.T) {
	for _, s := range gridSeqs() {
		for _, p := range rightPars() {
			for _, h := range someHeads(s) {
				row := headSigns(s.Bits, p.Qp, h)
				for size := range len(row) {
					wantNoHead(t, s, p, row[:size])
				}
			}
		}
	}
}

// rightHeads are all heads of a set and a par, by their rows.
func rightHeads(s impl.Seq, p impl.Par) map[string]impl.Head {
	heads := map[string]impl.Head{}
	for tile := range len(s.Cols) * len(s.Rows) {
		for frame := range 1 << s.Bits {
			for qp := range 41 {
				heads[headSigns(s.Bits, p.Qp, headOf(tile, frame, qp))] = headOf(tile, frame, qp)
			}
		}
	}
	return heads
}

func TestReadHeadOfEachShortRow(t *testing.T) {
	for _, c := range []struct {
		s impl.Seq
		p impl.Par
	}{
		{seqOf(1, 3, []int{2}, []int{1}), parOf(0, 0)},
		{seqOf(1, 3, []int{2, 1}, []int{1}), parOf(40, 1)},
		{seqOf(1, 4, []int{2, 1}, []int{1, 1}), parOf(1, 4)},
		{seqOf(1, 5, []int{2, 1, 1}, []int{1, 1}), parOf(38, 3)},
	} {
		heads := rightHeads(c.s, c.p)
		everyText("01", 14, func(row string) {
			for size := range len(row) + 1 {
				if want, there := heads[row[:size]]; there {
					wantHead(t, c.s, c.p, row, want, size)
					return
				}
			}
			wantNoHead(t, c.s, c.p, row)
		})
	}
}

// The whole row is looked at, not only the signs of the head.
func TestReadHeadOfNoRow(t *testing.T) {
	s, p := seqOf(1, 3, []int{2, 1}, []int{1, 2}), parOf(20, 1)
	row := headSigns(3, 20, headOf(2, 5, 18))
	for b := range 256 {
		if b == '0' || b == '1' {
			continue
		}
		for at := range len(row) {
			wantNoHead(t, s, p, row[:at]+byteText(b)+row[at+1:])
		}
		wantNoHead(t, s, p, row+byteText(b))
		wantNoHead(t, s, p, byteText(b)+row)
		wantNoHead(t, s, p, row+"0101"+byteText(b)+"1")
		wantNoHead(t, s, p, byteText(b))
	}
	full := longRow(impl.MaxRow)
	wantHead(t, s, p, row+full[len(row):], headOf(2, 5, 18), len(row))
	wantNoHead(t, s, p, row+full[len(row)-1:])
	wantNoHead(t, s, p, row+full)
	wantNoHead(t, s, p, row+full[len(row)+1:]+"x")
	wantNoHead(t, s, p, strings.Repeat("0", impl.MaxRow))
	wantNoHead(t, s, p, strings.Repeat("0", impl.MaxRow-1)+"1")
	wantNoHead(t, s, p, strings.Repeat("0", 1000)+strings.Repeat("1", 2000))
}

func TestHeadsLeaveTheirLists(t *testing.T) {
	room := []int{2, 1, 3, 5, 77, 78, 79}
	before := slices.Clone(room)
	for _, s := range []impl.Seq{
		seqOf(3, 4, room[:2], room[2:3]), seqOf(3, 4, room[:1], room[:1]), seqOf(1, 9, room[:2], room[2:4]), seqOf(3, 4, room, room[:0]),
	} {
		for tile := -1; tile < 5; tile++ {
			impl.HeadOk(s, parOf(3, 0), headOf(tile, 1, 2))
			impl.HeadRow(s, parOf(3, 0), headOf(tile, 1, 2))
			impl.ReadHead(s, parOf(3, 0), strings.Repeat("01", 20))
		}
		if !slices.Equal(room, before) {
			t.Fatalf("a list was written into: %v", room)
		}
	}
}

func TestALaterChangeOfAListIsSeenAsItIs(t *testing.T) {
	cols, p := []int{2, 1}, parOf(3, 0)
	s := seqOf(1, 4, cols, []int{1})
	if !impl.HeadOk(s, p, headOf(1, 2, 3)) {
		t.Error("the head is not right")
	}
	row, _ := impl.HeadRow(s, p, headOf(1, 2, 3))
	cols[0] = 9
	if impl.HeadOk(s, p, headOf(1, 2, 3)) {
		t.Error("the head is right by a set that is not")
	}
	wantNoHead(t, s, p, row)
	cols[0] = 1
	wantHead(t, s, p, row, headOf(1, 2, 3), len(row))
}
