package tests

import (
	"math"
	"slices"
	"strings"
	"testing"
	"unsafe"

	"loop.example/g00960/impl"
)

// picOf has the dots that are told for each place.
func picOf(wide, high int, dot func(x, y int) int) impl.Pic {
	dots := []byte{}
	for y := range high {
		for x := range wide {
			dots = append(dots, byte(dot(x, y)))
		}
	}
	return impl.Pic{Wide: wide, High: high, Dots: string(dots)}
}

func drawnPic(wide, high int) impl.Pic {
	numbers := drawn(1, wide*high, 1<<20)[0]
	return picOf(wide, high, func(x, y int) int { return numbers[y*wide+x] & 255 })
}

func flatPic(wide, high, dot int) impl.Pic {
	return picOf(wide, high, func(x, y int) int { return dot })
}

// everyDot has each byte there is as a dot, those that begin a rune or end one among them.
func everyDot() impl.Pic {
	return picOf(16, 16, func(x, y int) int { return 16*y + x })
}

func rightPics() []impl.Pic {
	pics := []impl.Pic{
		everyDot(),
		flatPic(1, 1, 0), flatPic(1, 1, 128), flatPic(1, 1, 255), flatPic(8, 8, 0), flatPic(9, 7, 255),
		{Wide: 2, High: 1, Dots: "\xc3\xa9"}, {Wide: 3, High: 1, Dots: "\xe2\x82\xac"}, {Wide: 2, High: 2, Dots: "\x00\n0\xff"},
	}
	for _, side := range []int{1, 2, 3, 7, 8, 9, 16} {
		for _, other := range []int{1, 2, 5, 8, 17} {
			pics = append(pics, drawnPic(side, other))
		}
	}
	return append(pics,
		drawnPic(impl.MaxWide, 1), drawnPic(1, impl.MaxWide), drawnPic(impl.MaxWide, 3), drawnPic(3, impl.MaxWide),
		drawnPic(impl.MaxWide, impl.MaxWide), drawnPic(impl.MaxWide-1, impl.MaxWide-2),
	)
}

func blankPic(wide, high, dots int) impl.Pic {
	return impl.Pic{Wide: wide, High: high, Dots: strings.Repeat("x", dots)}
}

func wrongPics() []impl.Pic {
	pics := []impl.Pic{
		{},
		{Dots: "x"}, {Wide: 1, High: 1}, {Wide: 1, Dots: "x"}, {High: 1, Dots: "x"}, {Wide: 5}, {High: 5},
		{Wide: 1, High: 1, Dots: "\u00e9"}, {Wide: 2, High: 2, Dots: "\u00e9\u00e9\u00e9\u00e9"},
		blankPic(257, 1, 257), blankPic(1, 257, 257), blankPic(257, 256, 257*256), blankPic(256, 257, 257*256),
		blankPic(257, 257, 257*257), blankPic(512, 128, 65536), blankPic(128, 512, 65536), blankPic(65536, 1, 65536), blankPic(1, 65536, 65536),
		blankPic(-1, -1, 1), blankPic(-2, -3, 6), blankPic(-8, -8, 64), blankPic(-16, -4, 64), blankPic(-256, -256, 65536),
		blankPic(-1, 0, 0), blankPic(0, -1, 0), blankPic(-1, 1, 1), blankPic(1, -1, 1),
		// The products of these go round, to 0 or to a number that is right.
		blankPic(1<<32, 1<<32, 0), blankPic(1<<62, 4, 0), blankPic(4, 1<<62, 0), blankPic(math.MinInt, 2, 0), blankPic(2, math.MinInt, 0),
		blankPic(math.MinInt, math.MinInt, 0), blankPic(math.MaxInt, math.MaxInt, 1), blankPic(1<<63-1, -1, 1), blankPic(1<<32+1, 1-1<<32, 1),
		blankPic(0x5555555555555555, 3, 255), blankPic(-0x5555555555555555, 3, 1), blankPic(3, -0x5555555555555555, 1), blankPic(256, 1<<56+1, 256),
	}
	for _, side := range append(farNumbers(), 0, -1) {
		pics = append(pics, blankPic(side, 0, 0), blankPic(0, side, 0), blankPic(side, 1, 1), blankPic(1, side, 1), blankPic(side, side, 1), blankPic(side, 2, 64))
	}
	for _, p := range rightPics() {
		pics = append(pics,
			impl.Pic{Wide: p.Wide, High: p.High, Dots: p.Dots[1:]},
			impl.Pic{Wide: p.Wide, High: p.High, Dots: p.Dots + "\x00"},
			impl.Pic{Wide: p.Wide, High: p.High, Dots: p.Dots + p.Dots},
			impl.Pic{Wide: p.Wide, High: p.High},
		)
	}
	return pics
}

// dotOf goes step by step from the nearest edge to the dot, or from outside to the edge.
func dotOf(p impl.Pic, x, y int) int {
	x, y = max(x, -2000), max(y, -2000)
	x, y = min(x, 2000), min(y, 2000)
	for x < 0 {
		x++
	}
	for x >= p.Wide {
		x--
	}
	for y < 0 {
		y++
	}
	for y >= p.High {
		y--
	}
	return int(p.Dots[y*p.Wide:][x])
}

func rectAt(left, top, wide, high int) impl.Rect {
	return impl.Rect{Left: left, Top: top, Wide: wide, High: high}
}

func wholeOf(p impl.Pic) impl.Rect { return rectAt(0, 0, p.Wide, p.High) }

func isIn(r impl.Rect, x, y int) bool {
	return x >= r.Left && x < r.Left+r.Wide && y >= r.Top && y < r.Top+r.High
}

func span(from, size int) []int {
	list := upTo(size)
	for i := range list {
		list[i] += from
	}
	return list
}

// cutBy takes dot by dot, of a right rect.
func cutBy(p impl.Pic, r impl.Rect) impl.Pic {
	return picOf(r.Wide, r.High, func(x, y int) int { return dotOf(p, r.Left+x, r.Top+y) })
}

func pastedBy(p, q impl.Pic, left, top int) impl.Pic {
	return picOf(p.Wide, p.High, func(x, y int) int {
		if isIn(rectAt(left, top, q.Wide, q.High), x, y) {
			return dotOf(q, x-left, y-top)
		}
		return dotOf(p, x, y)
	})
}

func apartBy(p, q impl.Pic) int {
	sum := 0
	for y := range p.High {
		for x := range p.Wide {
			a, b := dotOf(p, x, y), dotOf(q, x, y)
			sum += max(a, b) - min(a, b)
		}
	}
	return sum
}

// turned is p with the bits of one of its dots changed.
func turned(p impl.Pic, place int, by byte) impl.Pic {
	dots := []byte(p.Dots)
	dots[place] ^= by
	return impl.Pic{Wide: p.Wide, High: p.High, Dots: string(dots)}
}

// shownPic is short enough to be told of a large picture, too.
func shownPic(p impl.Pic) string {
	if len(p.Dots) > 70 {
		p.Dots = p.Dots[:70] + ".."
	}
	figures, _ := impl.Hex(p.Dots)
	return impl.Decimal(p.Wide) + " times " + impl.Decimal(p.High) + ": " + figures
}

func wantCut(t *testing.T, p impl.Pic, r impl.Rect, want impl.Pic) {
	t.Helper()
	if got, ok := impl.CutOf(p, r); !ok || got != want {
		t.Fatalf("CutOf(%s, %v): %s, %v; want %s", shownPic(p), r, shownPic(got), ok, shownPic(want))
	}
}

func wantNoCut(t *testing.T, p impl.Pic, r impl.Rect) {
	t.Helper()
	if got, ok := impl.CutOf(p, r); ok || got != (impl.Pic{}) {
		t.Fatalf("CutOf(%s, %v): %s, %v; want a refusal", shownPic(p), r, shownPic(got), ok)
	}
}

func wantPasted(t *testing.T, p, q impl.Pic, left, top int, want impl.Pic) {
	t.Helper()
	if got, ok := impl.Pasted(p, q, left, top); !ok || got != want {
		t.Fatalf("Pasted(%s, %s, %d, %d): %s, %v; want %s", shownPic(p), shownPic(q), left, top, shownPic(got), ok, shownPic(want))
	}
}

func wantNotPasted(t *testing.T, p, q impl.Pic, left, top int) {
	t.Helper()
	if got, ok := impl.Pasted(p, q, left, top); ok || got != p {
		t.Fatalf("Pasted(%s, %s, %d, %d): %s, %v; want it as it is, and false", shownPic(p), shownPic(q), left, top, shownPic(got), ok)
	}
}

func wantApart(t *testing.T, p, q impl.Pic, want int) {
	t.Helper()
	if one, other := impl.Apart(p, q), impl.Apart(q, p); one != want || other != want {
		t.Fatalf("Apart of %s and %s: %d, the other way %d; want %d", shownPic(p), shownPic(q), one, other, want)
	}
}

func TestPicOk(t *testing.T) {
	if impl.MaxWide != 256 {
		t.Error("a constant is not the chapter's")
	}
	for _, p := range rightPics() {
		if !impl.PicOk(p) {
			t.Errorf("not right: %s", shownPic(p))
		}
	}
	for _, p := range wrongPics() {
		if impl.PicOk(p) {
			t.Errorf("right: %s", shownPic(p))
		}
	}
}

func TestPicOkOfSidesAndBytes(t *testing.T) {
	for wide := -3; wide <= 12; wide++ {
		for high := -3; high <= 12; high++ {
			for bytes := range 150 {
				want := wide > 0 && high > 0 && bytes == wide*high
				if got := impl.PicOk(blankPic(wide, high, bytes)); got != want {
					t.Fatalf("PicOk with the sides %d and %d and %d bytes: %v; want %v", wide, high, bytes, got, want)
				}
			}
		}
	}
	for side := 1; side <= 300; side++ {
		want := side <= 256
		if impl.PicOk(blankPic(side, 1, side)) != want || impl.PicOk(blankPic(1, side, side)) != want || impl.PicOk(blankPic(side, side, side*side)) != want {
			t.Errorf("PicOk with a side %d: not %v", side, want)
		}
	}
}

func TestGrey(t *testing.T) {
	sides := append(farNumbers(), -2, -1, 0, 1, 2, 3, 8, 128, 254, 255, impl.MaxWide, impl.MaxWide+1, impl.MaxWide+2, 1<<32+8, 1<<63-8)
	for _, wide := range sides {
		for _, high := range sides {
			want := impl.Pic{}
			if wide >= 1 && wide <= 256 && high >= 1 && high <= 256 {
				want = impl.Pic{Wide: wide, High: high, Dots: strings.Repeat("\x80", wide*high)}
			}
			got := impl.Grey(wide, high)
			if got != want {
				t.Fatalf("Grey(%d, %d): %s", wide, high, shownPic(got))
			}
			if impl.PicOk(got) != (want.Wide > 0) {
				t.Fatalf("Grey(%d, %d) is right: %v", wide, high, impl.PicOk(got))
			}
		}
	}
}

func TestGreyIsGreyEverywhere(t *testing.T) {
	for _, size := range [][2]int{{1, 1}, {2, 3}, {8, 8}, {1, 256}, {256, 1}, {256, 256}} {
		p := impl.Grey(size[0], size[1])
		for _, x := range append(farNumbers(), -1, 0, 1, size[0]/2, size[0]-1, size[0], size[0]+1) {
			for _, y := range append(farNumbers(), -1, 0, 1, size[1]/2, size[1]-1, size[1], size[1]+1) {
				if got := impl.DotAt(p, x, y); got != 128 {
					t.Fatalf("DotAt of grey, at %d and %d: %d", x, y, got)
				}
			}
		}
		for _, x := range []int{-1000, -8, -7, -1, 0, 1, size[0] - 8, size[0] - 1, size[0], 1000} {
			for _, y := range []int{-1000, -8, -7, -1, 0, 1, size[1] - 8, size[1] - 1, size[1], 1000} {
				if got := impl.BlockOf(p, x, y); !slices.Equal(got, allAlike(64, 128)) {
					t.Fatalf("BlockOf grey, at %d and %d: %v", x, y, got)
				}
			}
		}
	}
}

func TestDotAtByHand(t *testing.T) {
	p := impl.Pic{Wide: 3, High: 2, Dots: "\x01\x02\x03\x80\xfe\xff"}
	for _, c := range []struct{ x, y, want int }{
		{0, 0, 1}, {1, 0, 2}, {2, 0, 3}, {0, 1, 128}, {1, 1, 254}, {2, 1, 255},
		{-1, 0, 1}, {0, -1, 1}, {-1, -1, 1}, {-1, 1, 128}, {0, 2, 128}, {-1, 2, 128},
		{3, 0, 3}, {2, -1, 3}, {3, -1, 3}, {3, 1, 255}, {2, 2, 255}, {3, 2, 255}, {1, -1, 2}, {1, 2, 254},
		{math.MinInt, 0, 1}, {math.MaxInt, 0, 3}, {0, math.MaxInt, 128}, {1, math.MinInt, 2}, {1, math.MaxInt, 254},
		{math.MinInt, math.MinInt, 1}, {math.MaxInt, math.MinInt, 3}, {math.MinInt, math.MaxInt, 128}, {math.MaxInt, math.MaxInt, 255},
		{1 << 32, 0, 3}, {1<<32 + 1, 1 << 32, 255}, {-1 << 32, -1 << 32, 1}, {1000, -1000, 3},
	} {
		if got := impl.DotAt(p, c.x, c.y); got != c.want {
			t.Errorf("DotAt(%d, %d): %d; want %d", c.x, c.y, got, c.want)
		}
	}
}

func TestDotAtEachPlaceAndOutside(t *testing.T) {
	for _, p := range rightPics() {
		far := farNumbers()
		if len(p.Dots) > 1000 {
			far = []int{math.MinInt, math.MaxInt}
		}
		for _, x := range append(span(-3, p.Wide+6), far...) {
			for _, y := range append(span(-3, p.High+6), far...) {
				if got, want := impl.DotAt(p, x, y), dotOf(p, x, y); got != want {
					t.Fatalf("DotAt(%s, %d, %d): %d; want %d", shownPic(p), x, y, got, want)
				}
			}
		}
	}
}

func TestDotsAreInTheirRows(t *testing.T) {
	for place := range 256 {
		if got := impl.DotAt(everyDot(), place%16, place/16); got != place {
			t.Errorf("DotAt(%d, %d): %d; want %d", place%16, place/16, got, place)
		}
	}
}

func TestBlockOfByHand(t *testing.T) {
	p := everyDot()
	row := func(list ...int) []int { return list }
	within := slices.Concat(row(35, 36, 37, 38, 39, 40, 41, 42), row(51, 52, 53, 54, 55, 56, 57, 58), row(67, 68, 69, 70, 71, 72, 73, 74), row(83, 84, 85, 86, 87, 88, 89, 90),
		row(99, 100, 101, 102, 103, 104, 105, 106), row(115, 116, 117, 118, 119, 120, 121, 122), row(131, 132, 133, 134, 135, 136, 137, 138), row(147, 148, 149, 150, 151, 152, 153, 154))
	above := slices.Concat(slices.Repeat(row(0, 1, 2, 3, 4, 5, 6, 7), 4), row(16, 17, 18, 19, 20, 21, 22, 23), row(32, 33, 34, 35, 36, 37, 38, 39), row(48, 49, 50, 51, 52, 53, 54, 55), row(64, 65, 66, 67, 68, 69, 70, 71))
	across := []int{}
	for y := range 8 {
		across = append(across, 16*y+12, 16*y+13, 16*y+14, 16*y+15, 16*y+15, 16*y+15, 16*y+15, 16*y+15)
	}
	for _, c := range []struct {
		x, y int
		want []int
	}{
		{3, 2, within},
		{0, -3, above},
		{12, 0, across},
		{-8, -8, allAlike(64, 0)}, {-7, -7, allAlike(64, 0)}, {-6, -7, slices.Repeat(row(0, 0, 0, 0, 0, 0, 0, 1), 8)},
		{-7, -6, append(allAlike(56, 0), allAlike(8, 16)...)},
		{15, 15, allAlike(64, 255)}, {16, 16, allAlike(64, 255)}, {15, -7, allAlike(64, 15)}, {-7, 15, allAlike(64, 240)},
		{1000, 1000, allAlike(64, 255)}, {-1000, -1000, allAlike(64, 0)}, {1000, -1000, allAlike(64, 15)}, {-1000, 1000, allAlike(64, 240)},
	} {
		if got := impl.BlockOf(p, c.x, c.y); !slices.Equal(got, c.want) {
			t.Errorf("BlockOf(%d, %d): %v; want %v", c.x, c.y, got, c.want)
		}
	}
}

func blockBy(p impl.Pic, x, y int) []int {
	block := []int{}
	for place := range 64 {
		block = append(block, dotOf(p, x+place%8, y+place/8))
	}
	return block
}

func TestBlockOfAtEachPlace(t *testing.T) {
	for _, p := range rightPics() {
		xs := []int{-1000, -999, -257, -256, -9, -8, -7, -1, 0, 1, p.Wide - 9, p.Wide - 8, p.Wide - 7, p.Wide - 1, p.Wide, p.Wide + 1, 500, 999, 1000}
		ys := []int{-1000, -999, -257, -256, -9, -8, -7, -1, 0, 1, p.High - 9, p.High - 8, p.High - 7, p.High - 1, p.High, p.High + 1, 500, 999, 1000}
		if len(p.Dots) <= 64 {
			xs, ys = append(xs, span(-9, p.Wide+10)...), append(ys, span(-9, p.High+10)...)
		}
		for _, x := range xs {
			for _, y := range ys {
				if got, want := impl.BlockOf(p, x, y), blockBy(p, x, y); !slices.Equal(got, want) {
					t.Fatalf("BlockOf(%s, %d, %d): %v; want %v", shownPic(p), x, y, got, want)
				}
			}
		}
	}
}

func TestBlocksBeyondTheLimit(t *testing.T) {
	p := everyDot()
	near := []int{-1000, -1, 0, 8, 1000}
	for _, far := range append(beyond(1000), -1<<32, 1<<32, 1<<32+1, math.MaxInt-7, math.MaxInt-8, math.MinInt+8) {
		for _, n := range append(near, far, -far) {
			if got := impl.BlockOf(p, far, n); len(got) != 0 {
				t.Errorf("BlockOf(%d, %d): %v; want nothing", far, n, got)
			}
			if got := impl.BlockOf(p, n, far); len(got) != 0 {
				t.Errorf("BlockOf(%d, %d): %v; want nothing", n, far, got)
			}
		}
	}
	for _, x := range near {
		for _, y := range near {
			if got := impl.BlockOf(p, x, y); len(got) != 64 {
				t.Errorf("BlockOf(%d, %d): %v; want 64 dots", x, y, got)
			}
		}
	}
}

func TestCutOfByHand(t *testing.T) {
	p := impl.Pic{Wide: 4, High: 3, Dots: "abcdefghijkl"}
	for _, c := range []struct {
		r    impl.Rect
		want string
	}{
		{rectAt(0, 0, 4, 3), "abcdefghijkl"},
		{rectAt(0, 0, 1, 1), "a"}, {rectAt(3, 0, 1, 1), "d"}, {rectAt(0, 2, 1, 1), "i"}, {rectAt(3, 2, 1, 1), "l"},
		{rectAt(1, 1, 2, 1), "fg"}, {rectAt(1, 0, 2, 3), "bcfgjk"}, {rectAt(2, 1, 2, 2), "ghkl"}, {rectAt(0, 1, 4, 1), "efgh"}, {rectAt(3, 0, 1, 3), "dhl"},
	} {
		wantCut(t, p, c.r, impl.Pic{Wide: c.r.Wide, High: c.r.High, Dots: c.want})
	}
	for _, r := range []impl.Rect{
		rectAt(-1, 0, 4, 3), rectAt(0, -1, 4, 3), rectAt(1, 0, 4, 3), rectAt(0, 1, 4, 3), rectAt(0, 0, 5, 3), rectAt(0, 0, 4, 4),
		rectAt(-1, 0, 1, 1), rectAt(0, -1, 1, 1), rectAt(4, 0, 1, 1), rectAt(0, 3, 1, 1), rectAt(3, 2, 2, 1), rectAt(3, 2, 1, 2),
		rectAt(0, 0, 3, 4), rectAt(0, 0, 0, 0), rectAt(0, 0, 0, 3), rectAt(0, 0, 4, 0), rectAt(1, 1, -1, 1), rectAt(1, 1, 1, -1),
		rectAt(4, 3, -4, -3), rectAt(4, 3, 0, 0), rectAt(2, 2, -1, -1), {}, rectAt(0, 0, -4, -3), rectAt(0, 1, 12, 1), rectAt(1, 0, 4, 1),
	} {
		wantNoCut(t, p, r)
	}
}

func TestCutOfEachRect(t *testing.T) {
	for _, p := range []impl.Pic{drawnPic(1, 1), drawnPic(5, 3), drawnPic(2, 6)} {
		for left := -2; left <= p.Wide+1; left++ {
			for top := -2; top <= p.High+1; top++ {
				for wide := -p.Wide - 2; wide <= p.Wide+2; wide++ {
					for high := -p.High - 2; high <= p.High+2; high++ {
						r := rectAt(left, top, wide, high)
						if left >= 0 && top >= 0 && wide > 0 && high > 0 && left+wide <= p.Wide && top+high <= p.High {
							wantCut(t, p, r, cutBy(p, r))
						} else {
							wantNoCut(t, p, r)
						}
					}
				}
			}
		}
	}
}

// edgeRects are the whole, one dot at each corner, and others along the sides.
func edgeRects(p impl.Pic) []impl.Rect {
	right, under := p.Wide-1, p.High-1
	return []impl.Rect{
		wholeOf(p),
		rectAt(0, 0, 1, 1), rectAt(right, 0, 1, 1), rectAt(0, under, 1, 1), rectAt(right, under, 1, 1),
		rectAt(0, 0, p.Wide, 1), rectAt(0, under, p.Wide, 1), rectAt(0, 0, 1, p.High), rectAt(right, 0, 1, p.High),
		rectAt(right/2, under/2, p.Wide-right/2, p.High-under/2), rectAt(0, 0, right/2+1, under/2+1), rectAt(right/2, under/3, right/3+1, under/2+1),
	}
}

func TestCutOfEdges(t *testing.T) {
	for _, p := range rightPics() {
		wantCut(t, p, wholeOf(p), p)
		for _, r := range edgeRects(p) {
			wantCut(t, p, r, cutBy(p, r))
			wantNoCut(t, p, rectAt(r.Left-p.Wide, r.Top, r.Wide, r.High))
			wantNoCut(t, p, rectAt(r.Left, r.Top-p.High, r.Wide, r.High))
			wantNoCut(t, p, rectAt(r.Left+p.Wide, r.Top, r.Wide, r.High))
			wantNoCut(t, p, rectAt(r.Left, r.Top+p.High, r.Wide, r.High))
			// These pass one side by one.
			wantNoCut(t, p, rectAt(-1, r.Top, r.Wide, r.High))
			wantNoCut(t, p, rectAt(r.Left, -1, r.Wide, r.High))
			wantNoCut(t, p, rectAt(p.Wide-r.Wide+1, r.Top, r.Wide, r.High))
			wantNoCut(t, p, rectAt(r.Left, p.High-r.High+1, r.Wide, r.High))
			wantNoCut(t, p, rectAt(r.Left, r.Top, p.Wide-r.Left+1, r.High))
			wantNoCut(t, p, rectAt(r.Left, r.Top, r.Wide, p.High-r.Top+1))
		}
	}
}

func TestCutOfNumbersThatGoRound(t *testing.T) {
	p := drawnPic(8, 5)
	far := append(farNumbers(), 1<<62, -1<<62, math.MaxInt-1, math.MaxInt-7, math.MinInt+5, 1<<32+8)
	near := []int{0, 1, 2, 5, 8}
	for _, n := range far {
		for _, other := range append(slices.Clone(far), near...) {
			for _, r := range []impl.Rect{
				rectAt(n, 0, other, 1), rectAt(other, 0, n, 1), rectAt(0, n, 1, other), rectAt(0, other, 1, n),
				rectAt(n, other, 1, 1), rectAt(other, n, 1, 1), rectAt(0, 0, n, other), rectAt(0, 0, other, n),
				rectAt(n, n, other, other), rectAt(other, other, n, n),
			} {
				wantNoCut(t, p, r)
			}
		}
	}
}

func TestPastedByHand(t *testing.T) {
	p := impl.Pic{Wide: 4, High: 3, Dots: "abcdefghijkl"}
	q := impl.Pic{Wide: 2, High: 2, Dots: "\x00\xff\xc3\xa9"}
	for _, c := range []struct {
		left, top int
		want      string
	}{
		{0, 0, "\x00\xffcd\xc3\xa9ghijkl"}, {2, 0, "ab\x00\xffef\xc3\xa9ijkl"}, {1, 0, "a\x00\xffde\xc3\xa9hijkl"},
		{0, 1, "abcd\x00\xffgh\xc3\xa9kl"}, {2, 1, "abcdef\x00\xffij\xc3\xa9"}, {1, 1, "abcde\x00\xffhi\xc3\xa9l"},
	} {
		wantPasted(t, p, q, c.left, c.top, impl.Pic{Wide: 4, High: 3, Dots: c.want})
	}
	for _, at := range [][2]int{{-1, 0}, {0, -1}, {-1, -1}, {3, 0}, {0, 2}, {3, 2}, {2, 2}, {3, 1}, {4, 0}, {0, 3}, {-1, 1}, {2, -1}, {-2, -2}, {4, 3}} {
		wantNotPasted(t, p, q, at[0], at[1])
	}
}

// placesFor are all where a side may stand along a small one, or some, the ends among them, along a larger one.
func placesFor(side, own int) []int {
	last := side - own
	if side <= 9 {
		return upTo(last + 1)
	}
	return slices.Compact([]int{0, last / 3, last / 2, last})
}

// checkPasted looks at one right pasting from all sides: what is there, what comes out, what stayed.
func checkPasted(t *testing.T, p, q impl.Pic, left, top int) {
	t.Helper()
	got, ok := impl.Pasted(p, q, left, top)
	if !ok || !impl.PicOk(got) || got.Wide != p.Wide || got.High != p.High || got != pastedBy(p, q, left, top) {
		t.Fatalf("Pasted(%s, %s, %d, %d): %s, %v", shownPic(p), shownPic(q), left, top, shownPic(got), ok)
	}
	r := rectAt(left, top, q.Wide, q.High)
	wantCut(t, got, r, q)
	for y := range p.High {
		for x := range p.Wide {
			if !isIn(r, x, y) && impl.DotAt(got, x, y) != impl.DotAt(p, x, y) {
				t.Fatalf("Pasted(%s, %s, %d, %d) changed the dot at %d and %d", shownPic(p), shownPic(q), left, top, x, y)
			}
		}
	}
	// What was there, put back, makes the first picture again.
	cut, ok := impl.CutOf(p, r)
	if !ok {
		t.Fatalf("CutOf(%s, %v): nothing", shownPic(p), r)
	}
	wantPasted(t, got, cut, left, top, p)
	wantPasted(t, p, cut, left, top, p)
	wantApart(t, p, got, impl.Apart(cut, q))
}

func TestWhatIsPastedIsCutOutAgain(t *testing.T) {
	for _, size := range [][2]int{{1, 1}, {1, 4}, {4, 1}, {3, 3}, {5, 4}, {9, 8}, {17, 16}} {
		p := drawnPic(size[0], size[1])
		for _, own := range [][2]int{{1, 1}, {2, 1}, {1, 3}, {3, 2}, {4, 4}, {8, 8}, {9, 8}, {17, 16}} {
			if own[0] > size[0] || own[1] > size[1] {
				continue
			}
			for dot, q := range []impl.Pic{flatPic(own[0], own[1], 0), flatPic(own[0], own[1], 255), drawnPic(own[0], own[1]), impl.Grey(own[0], own[1])} {
				for _, left := range placesFor(size[0], own[0]) {
					for _, top := range placesFor(size[1], own[1]) {
						checkPasted(t, p, q, left, top)
						checkPasted(t, flatPic(size[0], size[1], 85*dot), q, left, top)
					}
				}
			}
		}
	}
}

func TestPastedInLargePictures(t *testing.T) {
	p := drawnPic(256, 256)
	for _, q := range []impl.Pic{flatPic(1, 1, 7), everyDot(), drawnPic(255, 3), drawnPic(1, 256)} {
		for _, left := range []int{0, 256 - q.Wide} {
			for _, top := range []int{0, 256 - q.High} {
				wantPasted(t, p, q, left, top, pastedBy(p, q, left, top))
				wantCut(t, pastedBy(p, q, left, top), rectAt(left, top, q.Wide, q.High), q)
			}
		}
		for _, far := range []int{-1, 256 - q.Wide + 1} {
			wantNotPasted(t, p, q, far, 0)
		}
		for _, far := range []int{-1, 256 - q.High + 1} {
			wantNotPasted(t, p, q, 0, far)
		}
	}
	whole := flatPic(256, 256, 3)
	wantPasted(t, p, whole, 0, 0, whole)
}

func TestPastedOneDotTooFar(t *testing.T) {
	for _, p := range []impl.Pic{drawnPic(1, 1), drawnPic(5, 4), drawnPic(16, 8), drawnPic(256, 2), drawnPic(2, 256)} {
		for _, q := range []impl.Pic{flatPic(1, 1, 9), drawnPic(p.Wide, 1), drawnPic(1, p.High), drawnPic(p.Wide, p.High)} {
			right, under := p.Wide-q.Wide, p.High-q.High
			for _, left := range []int{0, right} {
				for _, top := range []int{0, under} {
					checkPasted(t, p, q, left, top)
				}
				wantNotPasted(t, p, q, left, -1)
				wantNotPasted(t, p, q, left, under+1)
			}
			for _, top := range []int{-1, 0, under, under + 1} {
				wantNotPasted(t, p, q, -1, top)
				wantNotPasted(t, p, q, right+1, top)
			}
		}
	}
	for _, own := range [][2]int{{6, 1}, {1, 5}, {6, 4}, {5, 5}, {6, 5}, {256, 256}, {4, 5}, {10, 2}, {20, 1}} {
		for _, at := range [][2]int{{0, 0}, {-1, 0}, {0, -1}, {-1, -1}, {1, 1}, {5 - own[0], 4 - own[1]}} {
			wantNotPasted(t, drawnPic(5, 4), drawnPic(own[0], own[1]), at[0], at[1])
		}
	}
}

func TestPastedAtPlacesThatGoRound(t *testing.T) {
	p := drawnPic(9, 8)
	far := append(farNumbers(), 1<<62, -1<<62, 1<<63-9, 1<<63-8, 1<<63-7, math.MinInt+7)
	for _, q := range []impl.Pic{flatPic(1, 1, 9), drawnPic(8, 8), drawnPic(9, 8), drawnPic(9, 1)} {
		for _, n := range far {
			for _, other := range append(slices.Clone(far), -1, 0, 1) {
				wantNotPasted(t, p, q, n, other)
				wantNotPasted(t, p, q, other, n)
			}
		}
	}
}

func TestApartByHand(t *testing.T) {
	pic := func(dots string) impl.Pic { return impl.Pic{Wide: 2, High: len(dots) / 2, Dots: dots} }
	for _, c := range []struct {
		p, q impl.Pic
		want int
	}{
		{pic("\x01\x02\x03\x04"), pic("\x01\x02\x03\x04"), 0},
		{pic("\x01\x02\x03\x04"), pic("\x04\x03\x02\x01"), 8},
		{pic("\x00\x00"), pic("\xff\xff"), 510},
		{pic("\x00\xff"), pic("\xff\x00"), 510},
		{pic("\x00\xff"), pic("\x01\xfe"), 2},
		{pic("\x7f\x80"), pic("\x80\x7f"), 2},
		{pic("\xc3\xa9"), pic("\xc3\xa8"), 1},
		{impl.Pic{Wide: 1, High: 1, Dots: "\x00"}, impl.Pic{Wide: 1, High: 1, Dots: "\xff"}, 255},
		{impl.Pic{Wide: 1, High: 1, Dots: "\x80"}, impl.Grey(1, 1), 0},
		{flatPic(256, 256, 0), flatPic(256, 256, 255), 16711680},
		{flatPic(256, 256, 0), impl.Grey(256, 256), 8388608},
		{flatPic(256, 256, 255), impl.Grey(256, 256), 8323072},
	} {
		wantApart(t, c.p, c.q, c.want)
	}
}

func TestApartOfEachTwoDots(t *testing.T) {
	for a := range 256 {
		for b := range 256 {
			if got, want := impl.Apart(flatPic(1, 1, a), flatPic(1, 1, b)), max(a-b, b-a); got != want {
				t.Fatalf("Apart of the dots %d and %d: %d; want %d", a, b, got, want)
			}
		}
	}
}

func TestApartOfLikeOnesAlone(t *testing.T) {
	for _, p := range rightPics() {
		wantApart(t, p, impl.Pic{Wide: p.Wide, High: p.High, Dots: strings.Clone(p.Dots)}, 0)
		for _, place := range []int{0, len(p.Dots) / 2, len(p.Dots) - 1} {
			for _, by := range []byte{1, 2, 128, 255} {
				other := turned(p, place, by)
				want := max(int(p.Dots[place])-int(other.Dots[place]), int(other.Dots[place])-int(p.Dots[place]))
				if want == 0 {
					t.Fatal("no dot was turned")
				}
				wantApart(t, p, other, want)
			}
		}
	}
}

func TestApartOfOnesOfOneSize(t *testing.T) {
	pics := rightPics()
	for _, p := range pics {
		if len(p.Dots) > 1000 {
			continue
		}
		backwards := []byte(p.Dots)
		slices.Reverse(backwards)
		pics = append(pics, flatPic(p.Wide, p.High, 0), impl.Pic{Wide: p.Wide, High: p.High, Dots: string(backwards)})
	}
	for _, p := range pics {
		for _, q := range pics {
			want := -1
			if p.Wide == q.Wide && p.High == q.High {
				want = apartBy(p, q)
			}
			wantApart(t, p, q, want)
			if (p == q) != (want == 0) {
				t.Fatalf("Apart of %s and %s: %d", shownPic(p), shownPic(q), want)
			}
		}
	}
}

// The dots of these are as many, and the same.
func TestApartOfUnlikeSizes(t *testing.T) {
	for _, c := range [][4]int{
		{2, 3, 3, 2}, {1, 6, 6, 1}, {2, 3, 6, 1}, {8, 8, 16, 4}, {8, 8, 4, 16}, {256, 1, 1, 256}, {256, 1, 16, 16}, {1, 2, 2, 1},
		{1, 1, 1, 2}, {1, 1, 2, 1}, {8, 8, 8, 9}, {8, 8, 9, 8}, {256, 255, 255, 256}, {256, 256, 256, 255},
	} {
		for _, dot := range []int{0, 128, 255} {
			wantApart(t, flatPic(c[0], c[1], dot), flatPic(c[2], c[3], dot), -1)
			wantApart(t, flatPic(c[0], c[1], dot), flatPic(c[2], c[3], 255-dot), -1)
		}
	}
}

func TestWrongPicturesAreRefused(t *testing.T) {
	right := []impl.Pic{flatPic(1, 1, 7), drawnPic(8, 8), drawnPic(256, 256)}
	places := []int{0, 1, -1, 5, math.MinInt, math.MaxInt}
	for _, p := range wrongPics() {
		for _, x := range places {
			for _, y := range places {
				if got := impl.DotAt(p, x, y); got != -1 {
					t.Fatalf("DotAt(%s, %d, %d): %d; want -1", shownPic(p), x, y, got)
				}
				if got := impl.BlockOf(p, x, y); len(got) != 0 {
					t.Fatalf("BlockOf(%s, %d, %d): %v; want nothing", shownPic(p), x, y, got)
				}
			}
			for _, q := range right {
				wantNotPasted(t, p, q, x, 0)
				wantNotPasted(t, q, p, 0, x)
			}
			wantNotPasted(t, p, p, x, x)
		}
		for _, r := range []impl.Rect{wholeOf(p), rectAt(0, 0, 1, 1), rectAt(0, 0, 0, 0), rectAt(0, 0, p.Wide, 1), rectAt(-1, -1, 1, 1), rectAt(p.Wide, p.High, -p.Wide, -p.High)} {
			wantNoCut(t, p, r)
		}
		for _, q := range append(right, p, flatPic(2, 2, 1), impl.Grey(p.Wide, p.High)) {
			wantApart(t, p, q, -1)
		}
	}
}

func TestTwoWrongPicturesAreNotApart(t *testing.T) {
	wrong := []impl.Pic{{}, blankPic(-1, -1, 1), blankPic(257, 1, 257), blankPic(2, 2, 3), blankPic(2, 2, 5), blankPic(1<<32, 1<<32, 0)}
	for _, p := range wrong {
		for _, q := range wrong {
			wantApart(t, p, q, -1)
			wantNotPasted(t, p, q, 0, 0)
		}
	}
}

// sharesMemory looks at where the texts lie; single bytes may all lie in one place of the library's.
func sharesMemory(a, b string) bool {
	if len(a) < 2 || len(b) < 2 {
		return false
	}
	from, other := uintptr(unsafe.Pointer(unsafe.StringData(a))), uintptr(unsafe.Pointer(unsafe.StringData(b)))
	return from < other+uintptr(len(b)) && other < from+uintptr(len(a))
}

func TestPicturesShareNoMemory(t *testing.T) {
	for _, p := range append(rightPics(), blankPic(2, 2, 3), blankPic(0, 0, 9)) {
		before := strings.Clone(p.Dots)
		answers := []impl.Pic{}
		for _, r := range append(edgeRects(p), rectAt(-1, 0, 1, 1)) {
			cut, _ := impl.CutOf(p, r)
			answers = append(answers, cut)
		}
		for _, q := range []impl.Pic{p, flatPic(1, 1, 9), drawnPic(max(p.Wide, 1), max(p.High, 1)), blankPic(300, 1, 300)} {
			for _, left := range []int{0, -1} {
				pasted, _ := impl.Pasted(p, q, left, 0)
				if sharesMemory(pasted.Dots, q.Dots) {
					t.Fatalf("Pasted(%s, %s, %d, 0) shares its dots with what was put in", shownPic(p), shownPic(q), left)
				}
				answers = append(answers, pasted)
			}
		}
		for _, answer := range answers {
			if sharesMemory(answer.Dots, p.Dots) {
				t.Fatalf("%s shares its dots with %s", shownPic(answer), shownPic(p))
			}
		}
		if p.Dots != before {
			t.Fatalf("the dots of %s were changed", shownPic(p))
		}
	}
}

func TestBlocksAreNewEachTime(t *testing.T) {
	p := drawnPic(9, 7)
	first, want := impl.BlockOf(p, 0, 0), blockBy(p, 0, 0)
	for place := range first {
		first[place] = -5
	}
	if got := impl.BlockOf(p, 0, 0); !slices.Equal(got, want) {
		t.Errorf("a block that was written over comes again: %v", got)
	}
	second := impl.BlockOf(p, 1, 1)
	impl.BlockOf(p, 2, 2)
	if !slices.Equal(second, blockBy(p, 1, 1)) || !slices.Equal(first, allAlike(64, -5)) {
		t.Error("a later block changed an earlier one")
	}
}

// Each call is given what an earlier one answered, so that what was kept from it would be seen.
func TestPicturesKeepNothing(t *testing.T) {
	p, q := drawnPic(8, 8), flatPic(2, 2, 200)
	once, _ := impl.Pasted(p, q, 0, 0)
	twice, _ := impl.Pasted(once, q, 6, 6)
	if twice != pastedBy(pastedBy(p, q, 0, 0), q, 6, 6) {
		t.Errorf("pasted twice: %s", shownPic(twice))
	}
	again, _ := impl.Pasted(p, q, 6, 6)
	if again != pastedBy(p, q, 6, 6) {
		t.Errorf("pasted anew: %s", shownPic(again))
	}
	if impl.Grey(2, 2) != impl.Grey(2, 2) || impl.Grey(2, 2).Dots != "\x80\x80\x80\x80" {
		t.Error("grey is another one the second time")
	}
}
