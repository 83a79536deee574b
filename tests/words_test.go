package tests

import (
	"fmt"
	"math"
	"slices"
	"strings"
	"testing"

	"loop.example/g00960/impl"
)

func TestWordsLimits(t *testing.T) {
	if impl.MaxText != 20000 || impl.MaxNumber != 1000000000 || impl.MaxWords != 600 || impl.MaxParts != 12 {
		t.Error("a constant is not the chapter's")
	}
}

func allBytes() string {
	list := make([]byte, 256)
	for i := range list {
		list[i] = byte(i)
	}
	return string(list)
}

func TestHexWritesTwoFiguresForEachByte(t *testing.T) {
	for b := range 256 {
		got, ok := impl.Hex(string([]byte{byte(b)}))
		if want := fmt.Sprintf("%02x", b); !ok || got != want {
			t.Errorf("Hex of the byte %d: %q, %v; want %q", b, got, ok, want)
		}
	}
	for _, c := range []struct{ text, want string }{
		{"", ""},
		{"\x00", "00"},
		{"\x0f\xf0", "0ff0"},
		{"\xde\xad\xbe\xef", "deadbeef"},
		{"Az ~", "417a207e"},
		{"\u00e9", "c3a9"},
	} {
		if got, ok := impl.Hex(c.text); !ok || got != c.want {
			t.Errorf("Hex(%q): %q, %v; want %q", c.text, got, ok, c.want)
		}
	}
}

func TestHexLimit(t *testing.T) {
	full := strings.Repeat("\xa5", impl.MaxText)
	got, ok := impl.Hex(full)
	if !ok || got != strings.Repeat("a5", impl.MaxText) {
		t.Error("a text of MaxText bytes is not written")
	}
	back, ok := impl.Unhex(got)
	if !ok || back != full {
		t.Error("a text of MaxText bytes is not read back")
	}
	if got, ok := impl.Hex(full + "\xa5"); ok || got != "" {
		t.Errorf("a text of MaxText and one bytes: %d figures, %v", len(got), ok)
	}
	for _, beyond := range []string{"a", "a5", "a5a5"} {
		if back, ok := impl.Unhex(got + beyond); ok || back != "" {
			t.Errorf("figures of more than MaxText bytes: %d bytes, %v", len(back), ok)
		}
	}
}

func TestUnhexReadsBack(t *testing.T) {
	all := allBytes()
	for _, text := range []string{"", "a", "\x00\x00", "\xff\xff\xff", all, all + all, "camera 1"} {
		figures, ok := impl.Hex(text)
		if !ok {
			t.Fatalf("Hex(%q) is refused", text)
		}
		if back, ok := impl.Unhex(figures); !ok || back != text {
			t.Errorf("Unhex(%q): %q, %v; want %q", figures, back, ok, text)
		}
	}
}

func TestUnhexOfAnyTwoBytes(t *testing.T) {
	written := map[string]string{}
	for b := range 256 {
		written[fmt.Sprintf("%02x", b)] = string([]byte{byte(b)})
	}
	for a := range 256 {
		for b := range 256 {
			text := string([]byte{byte(a), byte(b)})
			want, there := written[text]
			if got, ok := impl.Unhex(text); ok != there || got != want {
				t.Fatalf("Unhex(%q): %q, %v; want %q, %v", text, got, ok, want, there)
			}
		}
	}
}

func TestUnhexRefuses(t *testing.T) {
	for _, text := range []string{
		"0", "012", "01ff0", "A0", "0A", "FF", "fF", "g0", "0g", "/0", "0:", "`0", " 0", "00 ", "0x00",
		"00 0", "-1", "\x00\x00", "01ffzz", "zz01ff", "\xff\xff",
	} {
		if got, ok := impl.Unhex(text); ok || got != "" {
			t.Errorf("Unhex(%q): %q, %v; want a refusal", text, got, ok)
		}
	}
}

func TestDecimalOfEveryInt(t *testing.T) {
	for _, c := range []struct {
		n    int
		want string
	}{
		{0, "0"}, {1, "1"}, {9, "9"}, {10, "10"}, {-1, "-1"}, {-10, "-10"}, {1005, "1005"}, {-30, "-30"},
		{impl.MaxNumber, "1000000000"}, {impl.MaxNumber + 1, "1000000001"}, {-impl.MaxNumber, "-1000000000"},
		{math.MaxInt, "9223372036854775807"}, {math.MinInt, "-9223372036854775808"},
		{math.MaxInt - 1, "9223372036854775806"}, {math.MinInt + 1, "-9223372036854775807"},
	} {
		if got := impl.Decimal(c.n); got != c.want {
			t.Errorf("Decimal(%d): %q; want %q", c.n, got, c.want)
		}
	}
	for n := -1200; n <= 1200; n++ {
		if got, want := impl.Decimal(n), fmt.Sprintf("%d", n); got != want {
			t.Errorf("Decimal(%d): %q", n, got)
		}
	}
}

func TestReadDecimalReadsBack(t *testing.T) {
	numbers := []int{99999999, 100000000, 123456789, 999999999, impl.MaxNumber - 1, impl.MaxNumber}
	for n := range 1200 {
		numbers = append(numbers, n)
	}
	for _, n := range numbers {
		if got, ok := impl.ReadDecimal(impl.Decimal(n)); !ok || got != n {
			t.Errorf("ReadDecimal of the Decimal of %d: %d, %v", n, got, ok)
		}
	}
}

func TestReadDecimalRefuses(t *testing.T) {
	for _, text := range []string{
		"", "00", "007", "01", "-0", "-1", "+1", "+0", "+", "-", " 1", "1 ", "1 2", "1_000", "0x1", "1e3", "1.0", "a",
		"/", ":", "\x001", "1\x00", "\u0661",
		"1000000001", "1000000010", "9999999999", "10000000000", "01000000000", "-1000000000",
		impl.Decimal(math.MaxInt), impl.Decimal(math.MinInt), "9223372036854775808", "18446744073709551616", "18446744073709551617",
		strings.Repeat("0", 30), strings.Repeat("9", impl.MaxText), strings.Repeat("0", impl.MaxText) + "1",
	} {
		if got, ok := impl.ReadDecimal(text); ok || got != 0 {
			t.Errorf("ReadDecimal(%.40q): %d, %v; want a refusal", text, got, ok)
		}
	}
}

func TestReadDecimalOfAnyShortText(t *testing.T) {
	written := map[string]int{}
	for n := range 10000 {
		written[fmt.Sprintf("%d", n)] = n
	}
	everyText("0179-+ _a", 4, func(text string) {
		want, there := written[text]
		if got, ok := impl.ReadDecimal(text); ok != there || got != want {
			t.Errorf("ReadDecimal(%q): %d, %v; want %d, %v", text, got, ok, want, there)
		}
	})
}

// everyText hands over every text of at most so many of the signs.
func everyText(signs string, most int, look func(text string)) {
	texts := []string{""}
	for n := 0; ; n++ {
		longer := []string{}
		for _, text := range texts {
			look(text)
			for i := range len(signs) {
				longer = append(longer, text+signs[i:i+1])
			}
		}
		if n == most {
			return
		}
		texts = longer
	}
}

func TestPartsOf(t *testing.T) {
	for _, c := range []struct {
		line string
		want []string
	}{
		{"", nil},
		{" ", nil},
		{strings.Repeat(" ", impl.MaxWords), nil},
		{"a", []string{"a"}},
		{"  a bc ", []string{"a", "bc"}},
		{"a bc", []string{"a", "bc"}},
		{" a", []string{"a"}},
		{"a ", []string{"a"}},
		{"one   two  three", []string{"one", "two", "three"}},
		{"same same", []string{"same", "same"}},
		{"! ~ !~", []string{"!", "~", "!~"}},
		{"tick 0 \"x,y\" -1", []string{"tick", "0", "\"x,y\"", "-1"}},
	} {
		if got, ok := impl.PartsOf(c.line); !ok || !slices.Equal(got, c.want) {
			t.Errorf("PartsOf(%q): %q, %v; want %q", c.line, got, ok, c.want)
		}
	}
}

func TestPartsOfEachByte(t *testing.T) {
	for b := range 256 {
		sign := string([]byte{byte(b)})
		for _, line := range []string{sign, "a" + sign, sign + "a", "ab " + sign + " cd", "  " + sign} {
			got, ok := impl.PartsOf(line)
			want := []string(nil)
			if b >= 32 && b <= 126 {
				want = strings.FieldsFunc(line, func(r rune) bool { return r == 32 })
			}
			if ok != (b >= 32 && b <= 126) || !slices.Equal(got, want) {
				t.Errorf("PartsOf(%q): %q, %v; want %q", line, got, ok, want)
			}
		}
	}
	for _, line := range []string{"a\tb", "a\nb", "a\r", "\x1f", "\x7f", "\u00e9", "a b c\x00", "\xff a"} {
		if got, ok := impl.PartsOf(line); ok || len(got) != 0 {
			t.Errorf("PartsOf(%q): %q, %v; want a refusal", line, got, ok)
		}
	}
}

func TestPartsOfLimits(t *testing.T) {
	long := strings.Repeat("x", impl.MaxWords)
	if got, ok := impl.PartsOf(long); !ok || len(got) != 1 || got[0] != long {
		t.Errorf("a line of MaxWords bytes: %d parts, %v", len(got), ok)
	}
	for _, line := range []string{long + "x", long + " ", " " + long, strings.Repeat(" ", impl.MaxWords+1)} {
		if got, ok := impl.PartsOf(line); ok || len(got) != 0 {
			t.Errorf("a line of MaxWords and one bytes: %d parts, %v", len(got), ok)
		}
	}
	full := strings.Repeat("ab ", impl.MaxParts)
	for _, line := range []string{full, strings.TrimSpace(full), "  " + full + "  "} {
		got, ok := impl.PartsOf(line)
		if !ok || len(got) != impl.MaxParts || strings.Join(got, " ") != strings.TrimSpace(full) {
			t.Errorf("PartsOf(%q): %q, %v", line, got, ok)
		}
	}
	for _, line := range []string{full + "c", full + "c ", "c " + full} {
		if got, ok := impl.PartsOf(line); ok || len(got) != 0 {
			t.Errorf("PartsOf(%q): %q, %v; want a refusal", line, got, ok)
		}
	}
}

func TestPartsOfAnyShortLine(t *testing.T) {
	everyText(" ab~\x1f\x7f", 5, func(line string) {
		right := !strings.ContainsAny(line, "\x1f\x7f")
		want := []string(nil)
		if right {
			want = strings.FieldsFunc(line, func(r rune) bool { return r == 32 })
		}
		if got, ok := impl.PartsOf(line); ok != right || !slices.Equal(got, want) {
			t.Errorf("PartsOf(%q): %q, %v; want %q, %v", line, got, ok, want, right)
		}
	})
}

func TestPartsOfIsNewEachTime(t *testing.T) {
	first, _ := impl.PartsOf("a b c")
	second, _ := impl.PartsOf("a b c")
	first[0] = "z"
	_ = append(first[:1], "y")
	if !slices.Equal(second, []string{"a", "b", "c"}) {
		t.Errorf("an answer was changed through another one: %q", second)
	}
}

func TestBroughtStaysBetween(t *testing.T) {
	numbers := []int{math.MinInt, math.MinInt + 1, math.MaxInt - 1, math.MaxInt}
	for n := -4; n <= 4; n++ {
		numbers = append(numbers, n)
	}
	for _, n := range numbers {
		for _, least := range numbers {
			for _, most := range numbers {
				want := n
				if most < least || n < least {
					want = least
				} else if n > most {
					want = most
				}
				if got := impl.Brought(n, least, most); got != want {
					t.Errorf("Brought(%d, %d, %d): %d; want %d", n, least, most, got, want)
				}
			}
		}
	}
}

func TestBroughtWhenMostIsBelowLeast(t *testing.T) {
	for _, n := range []int{math.MinInt, 2, 3, 5, 7, 9, math.MaxInt} {
		if got := impl.Brought(n, 7, 3); got != 7 {
			t.Errorf("Brought(%d, 7, 3): %d; want 7", n, got)
		}
	}
}
