package tests

import (
	"fmt"
	"math"
	"strconv"
	"strings"
	"testing"

	"loop.example/g00960/impl"
)

func TestRowsLimit(t *testing.T) {
	if impl.MaxRow != 400000 {
		t.Error("MaxRow is not the chapter's")
	}
}

// longRow has so many signs, in no pattern that comes again within a byte.
func longRow(size int) string {
	signs := make([]byte, size)
	for i := range signs {
		signs[i] = '0' + byte(i*i/7+i/3)&1
	}
	return string(signs)
}

func TestRowOk(t *testing.T) {
	for _, row := range []string{"", "0", "1", "01", "10", "1101", longRow(1000), longRow(impl.MaxRow)} {
		if !impl.RowOk(row) {
			t.Errorf("RowOk of %d signs: %.20q is none", len(row), row)
		}
	}
	for _, row := range []string{longRow(impl.MaxRow + 1), longRow(2 * impl.MaxRow)} {
		if impl.RowOk(row) {
			t.Errorf("RowOk of %d signs: it is one", len(row))
		}
	}
}

func TestRowOkOfEachSign(t *testing.T) {
	full := longRow(impl.MaxRow)
	for b := range 256 {
		sign := string([]byte{byte(b)})
		right := b == '0' || b == '1'
		for _, row := range []string{sign, sign + "10", "01" + sign, "0" + sign + "1", "11111111" + sign, full[1:] + sign, sign + full[1:]} {
			if impl.RowOk(row) != right {
				t.Fatalf("RowOk with the byte %d in %d signs: %v", b, len(row), !right)
			}
		}
	}
}

func TestFixRowOfEachWidth(t *testing.T) {
	for width := 0; width <= 30; width++ {
		most := 1<<width - 1
		for _, n := range []int{0, 1, 2, 5, most / 3, most / 2, most/2 + 1, most - 1, most} {
			if n < 0 || n > most {
				continue
			}
			want := fmt.Sprintf("%0*b", width, n)
			if width == 0 {
				want = ""
			}
			if got, ok := impl.FixRow(n, width); !ok || got != want {
				t.Errorf("FixRow(%d, %d): %q, %v; want %q", n, width, got, ok, want)
			}
		}
		for _, n := range []int{most + 1, most + 2, 2*most + 2, 1 << 40, 1<<40 + 1, math.MaxInt, -1, -2, -most - 1, math.MinInt, math.MinInt + 1} {
			if got, ok := impl.FixRow(n, width); ok || got != "" {
				t.Errorf("FixRow(%d, %d): %q, %v; want a refusal", n, width, got, ok)
			}
		}
	}
}

func TestFixRowRefusesWidths(t *testing.T) {
	for _, width := range []int{-1, -2, -30, -64, 31, 32, 62, 63, 64, 65, 1 << 32, math.MaxInt, math.MinInt, math.MinInt + 1} {
		for _, n := range []int{0, 1, -1, 1 << 30, math.MaxInt, math.MinInt} {
			if got, ok := impl.FixRow(n, width); ok || got != "" {
				t.Errorf("FixRow(%d, %d): %q, %v; want a refusal", n, width, got, ok)
			}
		}
	}
}

func TestNumbersStandWhereTheyWerePut(t *testing.T) {
	row := ""
	places := []int{}
	numbers := []int{}
	for width := 0; width <= 30; width++ {
		n := 0x2d5a96b3 & (1<<width - 1)
		signs, ok := impl.FixRow(n, width)
		if !ok {
			t.Fatalf("FixRow(%d, %d) is refused", n, width)
		}
		places = append(places, len(row))
		numbers = append(numbers, n)
		row += signs
	}
	for width, n := range numbers {
		at := places[width]
		if got, next, ok := impl.ReadFix(row, at, width); !ok || got != n || next != at+width {
			t.Errorf("ReadFix at %d of width %d: %d, %d, %v; want %d, %d", at, width, got, next, ok, n, at+width)
		}
	}
}

// readAt is what ReadFix must answer of a row, read by the library.
func readAt(row string, at, width int) (int, int, bool) {
	if at < 0 || at > len(row) || width < 0 || width > 30 || width > len(row)-at {
		return 0, 0, false
	}
	n, _ := strconv.ParseInt("0"+row[at:at+width], 2, 64)
	return int(n), at + width, true
}

func TestReadFixAtEachPlace(t *testing.T) {
	for _, row := range []string{"", "0", "1", "10", "00110", longRow(29), longRow(30), longRow(31), longRow(64), strings.Repeat("1", 40)} {
		for at := -2; at <= len(row)+2; at++ {
			for width := -2; width <= 33; width++ {
				want, wantNext, wantOk := readAt(row, at, width)
				if n, next, ok := impl.ReadFix(row, at, width); n != want || next != wantNext || ok != wantOk {
					t.Fatalf("ReadFix(%q, %d, %d): %d, %d, %v; want %d, %d, %v", row, at, width, n, next, ok, want, wantNext, wantOk)
				}
			}
		}
	}
}

func TestReadFixRefuses(t *testing.T) {
	row := longRow(100)
	far := []int{math.MinInt, math.MinInt + 1, -1, math.MaxInt - 30, math.MaxInt - 1, math.MaxInt}
	for _, at := range far {
		for _, width := range []int{0, 1, 30, math.MinInt, math.MaxInt} {
			if n, next, ok := impl.ReadFix(row, at, width); ok || n != 0 || next != 0 {
				t.Errorf("ReadFix at %d of width %d: %d, %d, %v; want a refusal", at, width, n, next, ok)
			}
		}
	}
	for _, width := range far {
		for _, at := range []int{0, 1, 99, 100} {
			if n, next, ok := impl.ReadFix(row, at, width); ok || n != 0 || next != 0 {
				t.Errorf("ReadFix at %d of width %d: %d, %d, %v; want a refusal", at, width, n, next, ok)
			}
		}
	}
}

// The whole row is looked at, not only the signs that are read.
func TestReadFixOfNoRow(t *testing.T) {
	for _, wrong := range []string{"2", " ", "/", "a01", "0110x", "01 10", "\x0001", "0\x01", "01\xff", "\u00e9", longRow(impl.MaxRow + 1)} {
		for at := range 2 {
			for width := range 2 {
				if n, next, ok := impl.ReadFix(wrong, at, width); ok || n != 0 || next != 0 {
					t.Errorf("ReadFix(%.20q, %d, %d): %d, %d, %v; want a refusal", wrong, at, width, n, next, ok)
				}
			}
		}
	}
}

func TestReadFixOfTheLongestRow(t *testing.T) {
	row := longRow(impl.MaxRow-30) + strings.Repeat("10", 15)
	if n, next, ok := impl.ReadFix(row, impl.MaxRow-30, 30); !ok || n != 0x2aaaaaaa || next != impl.MaxRow {
		t.Errorf("the last thirty signs of MaxRow: %d, %d, %v", n, next, ok)
	}
	if n, next, ok := impl.ReadFix(row, impl.MaxRow-1, 1); !ok || n != 0 || next != impl.MaxRow {
		t.Errorf("the last sign of MaxRow: %d, %d, %v", n, next, ok)
	}
	if n, next, ok := impl.ReadFix(row, impl.MaxRow, 0); !ok || n != 0 || next != impl.MaxRow {
		t.Errorf("nothing behind MaxRow signs: %d, %d, %v", n, next, ok)
	}
}

// bytesOf is what RowBytes must answer of a row, eight signs at a time by the library.
func bytesOf(row string) string {
	row += "1"
	for len(row)%8 != 0 {
		row += "0"
	}
	out := []byte{}
	for at := 0; at < len(row); at += 8 {
		b, _ := strconv.ParseUint(row[at:at+8], 2, 8)
		out = append(out, byte(b))
	}
	return string(out)
}

func TestRowBytes(t *testing.T) {
	for _, c := range []struct{ row, want string }{
		{"", "\x80"},
		{"0", "\x40"},
		{"1", "\xc0"},
		{"101", "\xb0"},
		{"0000000", "\x01"},
		{"1111111", "\xff"},
		{"00000000", "\x00\x80"},
		{"11111111", "\xff\x80"},
		{"000000001", "\x00\xc0"},
		{"0000000100000010000001", "\x01\x02\x06"},
		{"000000010000001", "\x01\x03"},
	} {
		if got, ok := impl.RowBytes(c.row); !ok || got != c.want {
			t.Errorf("RowBytes(%q): %q, %v; want %q", c.row, got, ok, c.want)
		}
	}
}

func TestARowComesBackFromItsBytes(t *testing.T) {
	rows := []string{}
	for size := range 70 {
		rows = append(rows, longRow(size), strings.Repeat("0", size), strings.Repeat("1", size))
	}
	everyText("01", 12, func(row string) { rows = append(rows, row) })
	for _, size := range []int{7999, 8000, 8001, impl.MaxRow - 9, impl.MaxRow - 8, impl.MaxRow - 7, impl.MaxRow - 1, impl.MaxRow} {
		rows = append(rows, longRow(size))
	}
	for _, row := range rows {
		text, ok := impl.RowBytes(row)
		if !ok || text != bytesOf(row) {
			t.Fatalf("RowBytes of %d signs %.40q: %d bytes, %v", len(row), row, len(text), ok)
		}
		if back, ok := impl.BytesRow(text); !ok || back != row {
			t.Fatalf("BytesRow of the bytes of %d signs %.40q: %d signs, %v", len(row), row, len(back), ok)
		}
	}
}

func TestUnlikeRowsHaveUnlikeBytes(t *testing.T) {
	seen := map[string]string{}
	everyText("01", 13, func(row string) {
		text, _ := impl.RowBytes(row)
		if other, there := seen[text]; there {
			t.Fatalf("%q and %q have the same bytes", row, other)
		}
		seen[text] = row
	})
}

func TestRowBytesRefuses(t *testing.T) {
	for _, wrong := range []string{"2", "01 ", " 01", "0a1", "/", "\x00", "\x01", "\xff", "01\n", "\u0661", longRow(impl.MaxRow + 1), longRow(impl.MaxRow-1) + "x"} {
		if got, ok := impl.RowBytes(wrong); ok || got != "" {
			t.Errorf("RowBytes(%.20q): %d bytes, %v; want a refusal", wrong, len(got), ok)
		}
	}
}

func TestBytesRowOfEachLastByte(t *testing.T) {
	for _, ahead := range []string{"", "\x00", "\xff", "\x00\x00", "\x01\x80\xa5"} {
		for b := range 256 {
			text := ahead + string([]byte{byte(b)})
			signs := ""
			for i := range len(text) {
				signs += fmt.Sprintf("%08b", text[i])
			}
			want := ""
			if b != 0 {
				want = signs[:strings.LastIndexByte(signs, '1')]
			}
			if got, ok := impl.BytesRow(text); ok != (b != 0) || got != want {
				t.Errorf("BytesRow(%q): %q, %v; want %q", text, got, ok, want)
			}
		}
	}
}

func TestBytesRowRefuses(t *testing.T) {
	for _, text := range []string{"", "\x00", "\x00\x00", "\x80\x00", "\xff\xff\x00", allBytes() + "\x00"} {
		if got, ok := impl.BytesRow(text); ok || got != "" {
			t.Errorf("BytesRow(%.20q): %d signs, %v; want a refusal", text, len(got), ok)
		}
	}
}

// Only the byte 128 ends a row of MaxRow signs; any other last byte there ends a longer one.
func TestBytesRowLimit(t *testing.T) {
	full := strings.Repeat("\xa5", impl.MaxRow/8)
	if got, ok := impl.BytesRow(full + "\x80"); !ok || got != strings.Repeat("10100101", impl.MaxRow/8) {
		t.Errorf("the bytes of MaxRow signs: %d signs, %v", len(got), ok)
	}
	if got, ok := impl.BytesRow(full); !ok || len(got) != impl.MaxRow-1 {
		t.Errorf("the bytes of MaxRow less one signs: %d signs, %v", len(got), ok)
	}
	for b := range 256 {
		if b == 128 {
			continue
		}
		if got, ok := impl.BytesRow(full + string([]byte{byte(b)})); ok || got != "" {
			t.Fatalf("the bytes of more than MaxRow signs, the last one %d: %d signs, %v", b, len(got), ok)
		}
	}
	for _, behind := range []string{"\x80\x80", "\x80\x00", "\x00\x80", full + "\x80"} {
		if got, ok := impl.BytesRow(full + behind); ok || got != "" {
			t.Errorf("bytes of too long a row: %d signs, %v", len(got), ok)
		}
	}
}
