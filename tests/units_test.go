package tests

import (
	"slices"
	"strings"
	"testing"

	"loop.example/g00960/impl"
)

const unitBegin = "\x00\x00\x01"

func TestUnitsLimits(t *testing.T) {
	if impl.MaxStream != 60000 || impl.MaxUnits != 400 {
		t.Error("a constant is not the chapter's")
	}
}

// escapedOf is what Escaped must answer, told by how the text put so far ends.
func escapedOf(text string) (string, bool) {
	if text == "" || len(text) > 60000 || strings.HasSuffix(text, "\x00") {
		return "", false
	}
	out := []byte{}
	for i := range len(text) {
		if text[i] < 4 && strings.HasSuffix(string(out[max(0, len(out)-2):]), "\x00\x00") {
			out = append(out, 3)
		}
		out = append(out, text[i])
	}
	return string(out), true
}

// unescapedOf tells of each text of at most so many of the signs which one it is the Escaped of. (No Escaped is shorter than its text.)
func unescapedOf(signs string, most int) map[string]string {
	plain := map[string]string{}
	everyText(signs, most, func(text string) {
		if escaped, ok := escapedOf(text); ok {
			plain[escaped] = text
		}
	})
	return plain
}

// noughtsIn is a text of so many bytes that are 0 but for the last one.
func noughtsIn(size int) string { return strings.Repeat("\x00", size-1) + "\x01" }

// mixedText has so many bytes, the small ones and bytes 0 in a row among them, and ends with another than 0.
func mixedText(size int) string {
	list := make([]byte, size)
	for i := range list {
		list[i] = byte(i * i / 5 % 7)
		if i%11 < 3 {
			list[i] = 0
		}
	}
	list[size-1] = 9
	return string(list)
}

func wantNoText(t *testing.T, call string, of string, got string, ok bool) {
	t.Helper()
	if ok || got != "" {
		t.Errorf("%s of %d bytes %.20q: %d bytes, %v; want a refusal", call, len(of), of, len(got), ok)
	}
}

func TestEscaped(t *testing.T) {
	for _, c := range []struct{ text, want string }{
		{"a", "a"},
		{"\x01", "\x01"},
		{"\x03", "\x03"},
		{"\x00\x01", "\x00\x01"},
		{"\x00\x03", "\x00\x03"},
		{"\x00\x00\x01", "\x00\x00\x03\x01"},
		{"\x00\x00\x02", "\x00\x00\x03\x02"},
		{"\x00\x00\x03", "\x00\x00\x03\x03"},
		{"\x00\x00\x04", "\x00\x00\x04"},
		{"\x00\x00\xff", "\x00\x00\xff"},
		{"\x00\x00\x00\x04", "\x00\x00\x03\x00\x04"},
		{"\x00\x00\x00\x01", "\x00\x00\x03\x00\x01"},
		{"\x00\x00\x00\x00\x04", "\x00\x00\x03\x00\x00\x04"},
		{"\x00\x00\x00\x00\x01", "\x00\x00\x03\x00\x00\x03\x01"},
		{"\x00\x00\x03\x01", "\x00\x00\x03\x03\x01"},
		{"\x00\x00\x03\x00\x00\x03", "\x00\x00\x03\x03\x00\x00\x03\x03"},
		{"\x00a\x00\x01", "\x00a\x00\x01"},
		{"a\x00\x00b\x00\x00\x01c", "a\x00\x00b\x00\x00\x03\x01c"},
	} {
		if got, ok := impl.Escaped(c.text); !ok || got != c.want {
			t.Errorf("Escaped(%q): %q, %v; want %q", c.text, got, ok, c.want)
		}
		if back, ok := impl.Unescaped(c.want); !ok || back != c.text {
			t.Errorf("Unescaped(%q): %q, %v; want %q", c.want, back, ok, c.text)
		}
	}
}

func TestNoughtsAheadOfEachByte(t *testing.T) {
	for _, count := range []int{0, 1, 2, 3, 4, 5, 6, 7, 8, 9, 63, 64, 1000, 1001} {
		for b := range 256 {
			for _, ahead := range []string{"", "x", "\x03", "\x00\x00\x01"} {
				for _, behind := range []string{"", "\x01", "\x03", "\x00\x00\x03"} {
					text := ahead + strings.Repeat("\x00", count) + string([]byte{byte(b)}) + behind
					checkEscaped(t, text)
				}
			}
		}
	}
}

// checkEscaped holds Escaped to the chapter's words, its answer to having no beginning, and Unescaped to bringing the text back.
func checkEscaped(t *testing.T, text string) {
	t.Helper()
	want, wantOk := escapedOf(text)
	got, ok := impl.Escaped(text)
	if got != want || ok != wantOk {
		t.Fatalf("Escaped of %d bytes %.20q: %d bytes %.20q, %v; want %.20q, %v", len(text), text, len(got), got, ok, want, wantOk)
	}
	if !ok {
		return
	}
	if strings.Contains(got, unitBegin) {
		t.Fatalf("Escaped of %d bytes %.20q has a beginning of a unit in it", len(text), text)
	}
	if back, ok := impl.Unescaped(got); !ok || back != text {
		t.Fatalf("Unescaped of the Escaped of %d bytes %.20q: %d bytes, %v", len(text), text, len(back), ok)
	}
}

func TestEscapedOfEachShortText(t *testing.T) {
	everyText("\x00\x01\x02\x03\x04", 7, func(text string) { checkEscaped(t, text) })
	checkEscaped(t, allBytes())
	for _, size := range []int{1, 2, 3, 100, 1000, 59999, 60000} {
		checkEscaped(t, mixedText(size))
		checkEscaped(t, noughtsIn(size))
	}
}

func TestEscapedRefuses(t *testing.T) {
	for _, text := range []string{"", "\x00", "\x00\x00", "\x00\x00\x00", "a\x00", "\x00\x00\x01\x00", allBytes() + "\x00", mixedText(impl.MaxStream-1) + "\x00"} {
		got, ok := impl.Escaped(text)
		wantNoText(t, "Escaped", text, got, ok)
	}
	for _, text := range []string{mixedText(impl.MaxStream + 1), noughtsIn(impl.MaxStream + 1), mixedText(2 * impl.MaxStream)} {
		got, ok := impl.Escaped(text)
		wantNoText(t, "Escaped", text, got, ok)
	}
}

// What is escaped may be half as long again as MaxStream; only the text itself is held to that limit.
func TestEscapedLongerThanTheLimit(t *testing.T) {
	full := noughtsIn(impl.MaxStream)
	long, ok := impl.Escaped(full)
	if !ok || len(long) != impl.MaxStream+impl.MaxStream/2-1 {
		t.Fatalf("Escaped of MaxStream bytes: %d bytes, %v", len(long), ok)
	}
	if back, ok := impl.Unescaped(long); !ok || back != full {
		t.Errorf("Unescaped of %d bytes: %d bytes, %v", len(long), len(back), ok)
	}
	longer := strings.Repeat("\x00\x00\x03", impl.MaxStream/2) + "\x01"
	back, ok := impl.Unescaped(longer)
	wantNoText(t, "Unescaped", longer, back, ok)
	plain := strings.Repeat("x", impl.MaxStream)
	if back, ok := impl.Unescaped(plain); !ok || back != plain {
		t.Errorf("Unescaped of MaxStream bytes x: %d bytes, %v", len(back), ok)
	}
	back, ok = impl.Unescaped(plain + "x")
	wantNoText(t, "Unescaped", plain+"x", back, ok)
	back, ok = impl.Unescaped(strings.Repeat(plain, 20))
	wantNoText(t, "Unescaped", "twenty times as long", back, ok)
}

func TestUnescapedOfEachShortText(t *testing.T) {
	signs := "\x00\x01\x02\x03\x04"
	plain := unescapedOf(signs, 8)
	everyText(signs, 8, func(text string) {
		want, wantOk := plain[text]
		if got, ok := impl.Unescaped(text); got != want || ok != wantOk {
			t.Fatalf("Unescaped(%q): %q, %v; want %q, %v", text, got, ok, want, wantOk)
		}
	})
}

func TestUnescapedRefuses(t *testing.T) {
	for _, text := range []string{
		"", "\x00", "\x00\x00", "a\x00", "a\x00\x00", "\x00\x00\x03", "a\x00\x00\x03", "\x00\x00\x03\x00", "\x00\x00\x03\x00\x00\x03",
		"\x00\x00\x00\x04", "\x00\x00\x01", "\x00\x00\x02", "a\x00\x00\x01b", "\x00\x00\x03\x00\x00\x02",
		"\x00\x00\x03\x04", "\x00\x00\x03a", "\x00\x00\x03\xff", "\x00\x00\x03\x03\x00\x00\x03x",
	} {
		got, ok := impl.Unescaped(text)
		wantNoText(t, "Unescaped", text, got, ok)
	}
}

func TestFramed(t *testing.T) {
	for _, c := range []struct {
		units []string
		want  string
	}{
		{nil, ""},
		{[]string{}, ""},
		{[]string{"a"}, "\x00\x00\x01a"},
		{[]string{"a", "a"}, "\x00\x00\x01a\x00\x00\x01a"},
		{[]string{"\x01", "\x00\x01"}, "\x00\x00\x01\x01\x00\x00\x01\x00\x01"},
		{[]string{"\x00\x00\x01", "\x00\x00\x00\x01"}, "\x00\x00\x01\x00\x00\x03\x01\x00\x00\x01\x00\x00\x03\x00\x01"},
		{[]string{"\x00\x00\x03", "\x03"}, "\x00\x00\x01\x00\x00\x03\x03\x00\x00\x01\x03"},
	} {
		if got, ok := impl.Framed(c.units); !ok || got != c.want {
			t.Errorf("Framed(%q): %q, %v; want %q", c.units, got, ok, c.want)
		}
		if back, ok := impl.Unframed(c.want); !ok || !slices.Equal(back, c.units) {
			t.Errorf("Unframed(%q): %q, %v; want %q", c.want, back, ok, c.units)
		}
		if found := impl.UnitsIn(c.want); !slices.Equal(found, c.units) {
			t.Errorf("UnitsIn(%q): %q; want %q", c.want, found, c.units)
		}
	}
}

// checkFrame holds a list of units to coming back from its stream, and to being found in it.
func checkFrame(t *testing.T, units []string) {
	t.Helper()
	stream, ok := impl.Framed(units)
	if !ok || strings.Count(stream, unitBegin) != len(units) {
		t.Fatalf("Framed of %d units: %d bytes, %v", len(units), len(stream), ok)
	}
	if back, ok := impl.Unframed(stream); !ok || !slices.Equal(back, units) {
		t.Fatalf("Unframed of the stream of %d units: %d units, %v", len(units), len(back), ok)
	}
	if found := impl.UnitsIn(stream); !slices.Equal(found, units) {
		t.Fatalf("UnitsIn the stream of %d units: %d units", len(units), len(found))
	}
}

func TestUnitsComeBack(t *testing.T) {
	short := []string{}
	everyText("\x00\x01\x03\x04", 4, func(text string) {
		if !strings.HasSuffix(text, "\x00") && text != "" {
			short = append(short, text)
		}
	})
	for _, first := range short {
		checkFrame(t, []string{first})
		for _, second := range short {
			checkFrame(t, []string{first, second, first})
		}
	}
	for at := range short {
		checkFrame(t, short[at:min(len(short), at+impl.MaxUnits)])
	}
	checkFrame(t, []string{allBytes(), mixedText(5000), noughtsIn(5000), mixedText(30000)})
}

func TestFramedUnitsLimit(t *testing.T) {
	units := []string{}
	for i := range impl.MaxUnits + 1 {
		units = append(units, mixedText(1+i%50))
	}
	checkFrame(t, units[:impl.MaxUnits])
	got, ok := impl.Framed(units)
	wantNoText(t, "Framed", "MaxUnits units and one more", got, ok)
}

func TestFramedStreamLimit(t *testing.T) {
	most := strings.Repeat("x", impl.MaxStream-3)
	half := strings.Repeat("y", impl.MaxStream/2-3)
	// Two bytes 0 and a byte 1 take four bytes, so that this one is as long as most when it is escaped.
	guarded := unitBegin + strings.Repeat("z", impl.MaxStream-7)
	for _, units := range [][]string{{most}, {half, half}, {guarded}, {"a", most[4:]}, {most[4:], "a"}} {
		stream, _ := impl.Framed(units)
		if len(stream) != impl.MaxStream {
			t.Errorf("Framed of %d units that fill the stream: %d bytes", len(units), len(stream))
		}
		checkFrame(t, units)
		for at := range units {
			longer := slices.Clone(units)
			longer[at] += "x"
			got, ok := impl.Framed(longer)
			wantNoText(t, "Framed", "MaxStream bytes and one more", got, ok)
		}
		got, ok := impl.Framed(append(slices.Clone(units), "x"))
		wantNoText(t, "Framed", "a full stream and a unit more", got, ok)
	}
	got, ok := impl.Framed([]string{noughtsIn(impl.MaxStream)})
	wantNoText(t, "Framed", "a unit whose Escaped is longer than MaxStream", got, ok)
}

func TestFramedRefusesAUnitAmongOthers(t *testing.T) {
	for _, wrong := range []string{"", "\x00", "a\x00", "\x00\x00\x00", strings.Repeat("x", impl.MaxStream+1)} {
		for at := range 4 {
			units := slices.Insert([]string{"a", "b", "\x00\x00\x01"}, at, wrong)
			got, ok := impl.Framed(units)
			wantNoText(t, "Framed", wrong, got, ok)
		}
		got, ok := impl.Framed([]string{wrong})
		wantNoText(t, "Framed", wrong, got, ok)
	}
}

func TestFramedLeavesItsList(t *testing.T) {
	room := []string{"a", "\x00\x00\x01", "spare", "room"}
	impl.Framed(room[:2])
	if !slices.Equal(room, []string{"a", "\x00\x00\x01", "spare", "room"}) {
		t.Errorf("Framed has written into its list: %q", room)
	}
}

func TestUnframedRefuses(t *testing.T) {
	right := "\x00\x00\x01ab\x00\x00\x01c"
	for _, stream := range []string{
		"x", "\x00", "\x00\x00", unitBegin, "x" + right, "\x00" + right, right + "\x00", right + "\x00\x00",
		right + unitBegin, unitBegin + right, "\x00\x00\x01ab\x00\x00\x00\x01c", "\x00\x00\x01ab\x00\x00\x00\x00\x01c",
		right + "\x00\x00\x02", right + "\x00\x00\x03", right + "\x00\x00\x03x", right + "\x00\x00\x00x", right + "\x00\x00\x03\x00",
		unitBegin + strings.Repeat("x", impl.MaxStream-2),
		strings.Repeat(unitBegin+"u", impl.MaxUnits+1),
		strings.Repeat(unitBegin+"u", impl.MaxUnits) + unitBegin,
		strings.Repeat("x", impl.MaxStream), strings.Repeat("x", impl.MaxStream+1),
	} {
		if units, ok := impl.Unframed(stream); ok || len(units) != 0 {
			t.Errorf("Unframed of %d bytes %.20q: %d units, %v; want a refusal", len(stream), stream, len(units), ok)
		}
	}
	if units, ok := impl.Unframed(right); !ok || !slices.Equal(units, []string{"ab", "c"}) {
		t.Errorf("Unframed(%q): %q, %v", right, units, ok)
	}
}

func TestUnitsIn(t *testing.T) {
	for _, c := range []struct {
		stream string
		want   []string
	}{
		{"", nil},
		{"x", nil},
		{"\x00\x00", nil},
		{"ab\x00\x00", nil},
		{unitBegin, nil},
		{unitBegin + unitBegin, nil},
		{unitBegin + "\x00\x00\x00", nil},
		{unitBegin + "a", []string{"a"}},
		{"x" + unitBegin + "a", []string{"a"}},
		{"\x00" + unitBegin + "a", []string{"a"}},
		{"xyz\x00\x00\x02" + unitBegin + "a", []string{"a"}},
		{unitBegin + unitBegin + "a", []string{"a"}},
		{unitBegin + "a" + unitBegin, []string{"a"}},
		{unitBegin + "a" + unitBegin + "\x00", []string{"a"}},
		{unitBegin + "a\x00", []string{"a"}},
		{unitBegin + "a\x00\x00\x00\x00", []string{"a"}},
		{unitBegin + "a\x00" + unitBegin + "b\x00\x00" + unitBegin + "c", []string{"a", "b", "c"}},
		{unitBegin + "a\x00b\x00\x00c\x00", []string{"a\x00b\x00\x00c"}},
		{unitBegin + "a\x00\x00\x03\x00", nil},
		{unitBegin + "a\x00\x00\x03\x01\x00", []string{"a\x00\x00\x01"}},
		{unitBegin + "a\x00\x00\x00b" + unitBegin + "c", []string{"c"}},
		{unitBegin + "a\x00\x00\x02" + unitBegin + "c", []string{"c"}},
		{unitBegin + "a\x00\x00\x03b" + unitBegin + "c", []string{"c"}},
		{unitBegin + "a" + unitBegin + "b\x00\x00\x02" + unitBegin + "c", []string{"a", "c"}},
		{unitBegin + "\x01\x00\x01", []string{"\x01\x00\x01"}},
	} {
		if got := impl.UnitsIn(c.stream); !slices.Equal(got, c.want) {
			t.Errorf("UnitsIn(%q): %q; want %q", c.stream, got, c.want)
		}
	}
}

// foundIn is what UnitsIn must answer, place by place; plain tells what each piece is the Escaped of.
func foundIn(stream string, plain map[string]string) []string {
	units := []string{}
	begins := []int{}
	for at := 0; at+3 <= len(stream); at++ {
		if stream[at] == 0 && stream[at+1] == 0 && stream[at+2] == 1 {
			begins = append(begins, at)
		}
	}
	for i, at := range begins {
		end := len(stream)
		if i+1 < len(begins) {
			end = begins[i+1]
		}
		for end > at+3 && stream[end-1] == 0 {
			end--
		}
		if unit, ok := plain[stream[at+3:end]]; ok {
			units = append(units, unit)
		}
	}
	return units
}

func TestUnitsInEachShortStream(t *testing.T) {
	signs := "\x00\x01\x03\x04"
	plain := unescapedOf(signs, 9)
	everyText(signs, 9, func(stream string) {
		want := foundIn(stream, plain)
		if got := impl.UnitsIn(stream); !slices.Equal(got, want) {
			t.Fatalf("UnitsIn(%q): %q; want %q", stream, got, want)
		}
		framed := ""
		for _, unit := range want {
			escaped, _ := escapedOf(unit)
			framed += unitBegin + escaped
		}
		wantOk := framed == stream
		if !wantOk {
			want = nil
		}
		if got, ok := impl.Unframed(stream); ok != wantOk || !slices.Equal(got, want) {
			t.Fatalf("Unframed(%q): %q, %v; want %q, %v", stream, got, ok, want, wantOk)
		}
	})
}

// The pieces that are no units don't count among the first MaxUnits.
func TestUnitsInTakesTheFirstMaxUnits(t *testing.T) {
	units := []string{}
	stream := "ahead"
	for i := range impl.MaxUnits + 5 {
		units = append(units, mixedText(1+i%40)+string([]byte{byte(5 + i%250)}))
		escaped, _ := escapedOf(units[i])
		stream += unitBegin + "wrong\x00\x00\x02" + unitBegin + unitBegin + escaped + strings.Repeat("\x00", i%4)
		want := units[:min(len(units), impl.MaxUnits)]
		if got := impl.UnitsIn(stream); !slices.Equal(got, want) {
			t.Fatalf("UnitsIn with %d units among others: %d", len(units), len(got))
		}
	}
}

func TestUnitsInStreamLimit(t *testing.T) {
	full := unitBegin + "a\x00" + unitBegin + strings.Repeat("x", impl.MaxStream-8)
	want := []string{"a", full[8:]}
	if got := impl.UnitsIn(full); !slices.Equal(got, want) {
		t.Errorf("UnitsIn MaxStream bytes: %d units", len(got))
	}
	for _, behind := range []string{"x", "\x00", unitBegin + "b", full} {
		if got := impl.UnitsIn(full + behind); len(got) != 0 {
			t.Errorf("UnitsIn %d bytes: %d units", len(full+behind), len(got))
		}
	}
	noughts := unitBegin + "a" + strings.Repeat("\x00", impl.MaxStream-4)
	if got := impl.UnitsIn(noughts); !slices.Equal(got, []string{"a"}) {
		t.Errorf("UnitsIn a unit and %d bytes 0: %q", impl.MaxStream-4, got)
	}
	if got := impl.UnitsIn(noughts + "\x00"); len(got) != 0 {
		t.Errorf("UnitsIn MaxStream bytes and one more: %q", got)
	}
	begins := strings.Repeat(unitBegin, impl.MaxStream/3)
	if got := impl.UnitsIn(begins); len(got) != 0 {
		t.Errorf("UnitsIn beginnings alone: %d units", len(got))
	}
}
