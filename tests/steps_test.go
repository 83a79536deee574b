package tests

import (
	"math"
	"testing"

	"loop.example/g00960/impl"
)

func TestStepsLimits(t *testing.T) {
	if impl.MaxLevel != 5000 || impl.MaxTurned != 20000 {
		t.Error("a constant is not the chapter's")
	}
}

// wrongQps are on both sides of the right ones; some have the lowest bits of a right one.
func wrongQps() []int {
	return append(farNumbers(), -1, -2, -6, -7, -12, -40, -41, 41, 42, 47, 48, 63, 64, 255, 256, 1<<32+6, math.MinInt+6)
}

func wrongPlaces() []int {
	return append(farNumbers(), -1, -2, -4, -5, -15, -16, 16, 17, 20, 21, 31, 32, 1<<32+5, math.MinInt+5)
}

// beyond are the numbers outside -limit .. limit.
func beyond(limit int) []int {
	return []int{
		limit + 1, limit + 2, 2 * limit, 100 * limit, 1<<32 + 1, 1 << 61, 1 << 62, math.MaxInt - 1, math.MaxInt,
		-limit - 1, -limit - 2, -2 * limit, -100 * limit, -1<<32 - 1, -1 << 61, -1 << 62, math.MinInt + 1, math.MinInt,
	}
}

// stepSizes are the chapter's steps, written out for each qp.
func stepSizes() []int {
	return []int{
		10, 11, 13, 14, 16, 18,
		20, 22, 26, 28, 32, 36,
		40, 44, 52, 56, 64, 72,
		80, 88, 104, 112, 128, 144,
		160, 176, 208, 224, 256, 288,
		320, 352, 416, 448, 512, 576,
		640, 704, 832, 896, 1024,
	}
}

// placeKindsOf are the kinds of 4 rows of 4.
func placeKindsOf() []int {
	return []int{
		0, 2, 0, 2,
		2, 1, 2, 1,
		0, 2, 0, 2,
		2, 1, 2, 1,
	}
}

// scalesOf are those of the kinds 0, 1, 2, for each rest.
func scalesOf() [][]int {
	return [][]int{{10, 16, 13}, {11, 18, 14}, {13, 20, 16}, {14, 23, 18}, {16, 25, 20}, {18, 29, 23}}
}

func sharesOf() [][]int {
	return [][]int{
		{13107, 5243, 8066}, {11916, 4660, 7490}, {10082, 4194, 6554}, {9362, 3647, 5825}, {8192, 3355, 5243}, {7282, 2893, 4559},
	}
}

// timesTwo doubles n as often as is told.
func timesTwo(n, often int) int {
	for range often {
		n += n
	}
	return n
}

func TestStepOfEachQp(t *testing.T) {
	sizes := stepSizes()
	if len(sizes) != impl.MaxQp+1 {
		t.Fatalf("%d steps are written out", len(sizes))
	}
	for qp, want := range sizes {
		if got := impl.StepOf(qp); got != want {
			t.Errorf("StepOf(%d): %d; want %d", qp, got, want)
		}
	}
	for _, qp := range wrongQps() {
		if got := impl.StepOf(qp); got != 0 {
			t.Errorf("StepOf(%d): %d; want 0", qp, got)
		}
	}
}

func TestStepsDoubleWithEachSix(t *testing.T) {
	for qp := 0; qp+6 <= impl.MaxQp; qp++ {
		one, six := impl.StepOf(qp), impl.StepOf(qp+6)
		if one <= 0 || six != 2*one {
			t.Errorf("StepOf(%d) is %d, StepOf(%d) is %d", qp, one, qp+6, six)
		}
		for place := range 16 {
			one, six := impl.ScaleOf(qp, place), impl.ScaleOf(qp+6, place)
			if one <= 0 || six != 2*one {
				t.Errorf("ScaleOf(%d, %d) is %d, ScaleOf(%d, %d) is %d", qp, place, one, qp+6, place, six)
			}
			if impl.ShareOf(qp, place) != impl.ShareOf(qp+6, place) {
				t.Errorf("ShareOf(%d, %d) is not that of six more", qp, place)
			}
		}
	}
	for qp := range impl.MaxQp {
		if impl.StepOf(qp) >= impl.StepOf(qp+1) {
			t.Errorf("StepOf(%d) is not less than the next", qp)
		}
	}
}

func TestKindOfEachPlace(t *testing.T) {
	for place, want := range placeKindsOf() {
		if got := impl.KindOf(place); got != want {
			t.Errorf("KindOf(%d): %d; want %d", place, got, want)
		}
	}
	for _, place := range wrongPlaces() {
		if got := impl.KindOf(place); got != -1 {
			t.Errorf("KindOf(%d): %d; want -1", place, got)
		}
	}
}

func TestScaleAndShareOfEachQpAndPlace(t *testing.T) {
	scales, shares := scalesOf(), sharesOf()
	for qp := 0; qp <= impl.MaxQp; qp++ {
		for place, kind := range placeKindsOf() {
			if got, want := impl.ScaleOf(qp, place), timesTwo(scales[qp%6][kind], qp/6); got != want {
				t.Errorf("ScaleOf(%d, %d): %d; want %d", qp, place, got, want)
			}
			if got, want := impl.ShareOf(qp, place), shares[qp%6][kind]; got != want {
				t.Errorf("ShareOf(%d, %d): %d; want %d", qp, place, got, want)
			}
		}
	}
}

// Values worked out by hand keep the tables above from being wrong as the program is.
func TestScaleAndShareByHand(t *testing.T) {
	for _, c := range []struct{ qp, place, scale, share int }{
		{0, 0, 10, 13107}, {0, 1, 13, 8066}, {0, 5, 16, 5243},
		{1, 15, 18, 4660}, {2, 10, 13, 10082}, {3, 4, 18, 5825},
		{4, 7, 25, 3355}, {5, 13, 29, 2893}, {5, 14, 23, 4559},
		{6, 0, 20, 13107}, {7, 5, 36, 4660}, {13, 6, 56, 7490},
		{23, 13, 232, 2893}, {35, 2, 576, 7282}, {36, 5, 1024, 5243},
		{40, 0, 1024, 8192}, {40, 5, 1600, 3355}, {40, 11, 1280, 5243}, {40, 12, 1280, 5243},
	} {
		if got := impl.ScaleOf(c.qp, c.place); got != c.scale {
			t.Errorf("ScaleOf(%d, %d): %d; want %d", c.qp, c.place, got, c.scale)
		}
		if got := impl.ShareOf(c.qp, c.place); got != c.share {
			t.Errorf("ShareOf(%d, %d): %d; want %d", c.qp, c.place, got, c.share)
		}
	}
}

// wantNothingAt asks all that takes a qp and a place, of which at least one is none.
func wantNothingAt(t *testing.T, qp, place int) {
	t.Helper()
	if got := impl.ScaleOf(qp, place); got != 0 {
		t.Errorf("ScaleOf(%d, %d): %d; want 0", qp, place, got)
	}
	if got := impl.ShareOf(qp, place); got != 0 {
		t.Errorf("ShareOf(%d, %d): %d; want 0", qp, place, got)
	}
	for _, n := range []int{0, 1, -1, 40, -40, 5000, -5000, 20000, -20000, math.MaxInt, math.MinInt} {
		if got := impl.SmallLevel(n, qp, place); got != 0 {
			t.Errorf("SmallLevel(%d, %d, %d): %d; want 0", n, qp, place, got)
		}
		if got := impl.SmallBack(n, qp, place); got != 0 {
			t.Errorf("SmallBack(%d, %d, %d): %d; want 0", n, qp, place, got)
		}
	}
}

func TestNoQpOrNoPlaceHasNothing(t *testing.T) {
	for _, qp := range wrongQps() {
		for place := range 16 {
			wantNothingAt(t, qp, place)
		}
		for _, place := range wrongPlaces() {
			wantNothingAt(t, qp, place)
		}
		for _, n := range []int{0, 1, -1, 40, -40, 5000, -5000, 20000, -20000, math.MaxInt, math.MinInt} {
			if got := impl.LargeLevel(n, qp); got != 0 {
				t.Errorf("LargeLevel(%d, %d): %d; want 0", n, qp, got)
			}
			if got := impl.LargeBack(n, qp); got != 0 {
				t.Errorf("LargeBack(%d, %d): %d; want 0", n, qp, got)
			}
		}
	}
	for _, place := range wrongPlaces() {
		for qp := 0; qp <= impl.MaxQp; qp++ {
			wantNothingAt(t, qp, place)
		}
	}
}

func TestLevelsByHand(t *testing.T) {
	for _, c := range []struct{ w, qp, place, want int }{
		{0, 0, 0, 0}, {1, 0, 0, 0}, {-1, 0, 0, 0},
		{1, 0, 15, 0}, {2, 0, 0, 1}, {-2, 0, 0, -1}, // 2 shares and a third of 32768 are 37136
		{4, 0, 0, 1}, {5, 0, 0, 2}, {-4, 0, 0, -1}, {-5, 0, 0, -2},
		{4, 0, 5, 0}, {5, 0, 5, 1}, {2, 0, 1, 0}, {3, 0, 1, 1},
		{100, 0, 0, 40}, {-100, 0, 0, -40},
		{100, 6, 0, 20}, {100, 7, 5, 7}, {-100, 7, 5, -7},
		{20000, 0, 0, 8000}, {-20000, 0, 0, -8000}, // no level that SmallBack takes
		{20000, 40, 5, 32}, {-20000, 40, 5, -32}, {20000, 40, 0, 78}, {20000, 40, 1, 50},
	} {
		if got := impl.SmallLevel(c.w, c.qp, c.place); got != c.want {
			t.Errorf("SmallLevel(%d, %d, %d): %d; want %d", c.w, c.qp, c.place, got, c.want)
		}
	}
	for _, c := range []struct{ w, qp, want int }{
		{0, 0, 0}, {1, 0, 0}, {-1, 0, 0}, {4, 0, 0}, {5, 0, 1}, {-4, 0, 0}, {-5, 0, -1},
		{14, 0, 1}, {15, 0, 2}, {-14, 0, -1}, {-15, 0, -2}, {25, 0, 3}, {-24, 0, -2},
		{5, 1, 0}, {6, 1, 1}, {-5, 1, 0}, {-6, 1, -1}, {16, 1, 1}, {17, 1, 2}, // a half of 11 is 5
		{6, 2, 0}, {7, 2, 1}, {-7, 2, -1}, {-20, 2, -2}, {-19, 2, -1},
		{511, 40, 0}, {512, 40, 1}, {-511, 40, 0}, {-512, 40, -1},
		{20000, 0, 2000}, {-20000, 0, -2000}, {20000, 40, 20}, {-20000, 40, -20}, {20000, 5, 1111}, {-20000, 5, -1111},
	} {
		if got := impl.LargeLevel(c.w, c.qp); got != c.want {
			t.Errorf("LargeLevel(%d, %d): %d; want %d", c.w, c.qp, got, c.want)
		}
	}
}

// TestSmallLevelOfEachNumber goes up from 0: a level is reached when so many wholes fit into the shares and the third.
func TestSmallLevelOfEachNumber(t *testing.T) {
	for qp := 0; qp <= impl.MaxQp; qp++ {
		whole := timesTwo(32768, qp/6)
		for place, kind := range placeKindsOf() {
			share, level := sharesOf()[qp%6][kind], 0
			for size := range impl.MaxTurned + 1 {
				for (level+1)*whole <= size*share+whole/3 {
					level++
				}
				if got := impl.SmallLevel(size, qp, place); got != level {
					t.Fatalf("SmallLevel(%d, %d, %d): %d; want %d", size, qp, place, got, level)
				}
				if got := impl.SmallLevel(-size, qp, place); got != -level {
					t.Fatalf("SmallLevel(%d, %d, %d): %d; want %d", -size, qp, place, got, -level)
				}
			}
		}
	}
}

func TestLargeLevelOfEachNumber(t *testing.T) {
	for qp, step := range stepSizes() {
		level := 0
		for size := range impl.MaxTurned + 1 {
			if (level+1)*step <= size+step/2 {
				level++
			}
			if got := impl.LargeLevel(size, qp); got != level {
				t.Fatalf("LargeLevel(%d, %d): %d; want %d", size, qp, got, level)
			}
			if got := impl.LargeLevel(-size, qp); got != -level {
				t.Fatalf("LargeLevel(%d, %d): %d; want %d", -size, qp, got, -level)
			}
		}
	}
}

func TestLevelsBeyondTheLimits(t *testing.T) {
	for qp := 0; qp <= impl.MaxQp; qp++ {
		for _, w := range beyond(impl.MaxTurned) {
			if got := impl.LargeLevel(w, qp); got != 0 {
				t.Errorf("LargeLevel(%d, %d): %d; want 0", w, qp, got)
			}
			for place := range 16 {
				if got := impl.SmallLevel(w, qp, place); got != 0 {
					t.Errorf("SmallLevel(%d, %d, %d): %d; want 0", w, qp, place, got)
				}
			}
		}
		for _, level := range beyond(impl.MaxLevel) {
			if got := impl.LargeBack(level, qp); got != 0 {
				t.Errorf("LargeBack(%d, %d): %d; want 0", level, qp, got)
			}
			for place := range 16 {
				if got := impl.SmallBack(level, qp, place); got != 0 {
					t.Errorf("SmallBack(%d, %d, %d): %d; want 0", level, qp, place, got)
				}
			}
		}
	}
}

// checkBacks adds up, so that a level is not asked for by the product that the program forms.
func checkBacks(t *testing.T, qp, place, scale int) {
	t.Helper()
	small, large, step := 0, 0, stepSizes()[qp]
	for level := range impl.MaxLevel + 1 {
		for _, c := range []struct{ level, small, large int }{{level, small, large}, {-level, -small, -large}} {
			if got := impl.SmallBack(c.level, qp, place); got != c.small {
				t.Fatalf("SmallBack(%d, %d, %d): %d; want %d", c.level, qp, place, got, c.small)
			}
			if got := impl.LargeBack(c.level, qp); got != c.large {
				t.Fatalf("LargeBack(%d, %d): %d; want %d", c.level, qp, got, c.large)
			}
		}
		small, large = small+scale, large+step
	}
}

func TestBackOfEachLevel(t *testing.T) {
	for qp := 0; qp <= impl.MaxQp; qp++ {
		for place, kind := range placeKindsOf() {
			checkBacks(t, qp, place, timesTwo(scalesOf()[qp%6][kind], qp/6))
		}
	}
}

func TestBacksByHand(t *testing.T) {
	for _, c := range []struct{ level, qp, place, want int }{
		{0, 0, 0, 0}, {1, 0, 0, 10}, {-1, 0, 5, -16}, {40, 0, 0, 400}, {-3, 7, 1, -84},
		{5000, 40, 5, 8000000}, {-5000, 40, 5, -8000000}, {5000, 0, 1, 65000},
	} {
		if got := impl.SmallBack(c.level, c.qp, c.place); got != c.want {
			t.Errorf("SmallBack(%d, %d, %d): %d; want %d", c.level, c.qp, c.place, got, c.want)
		}
	}
	for _, c := range []struct{ level, qp, want int }{
		{0, 0, 0}, {1, 0, 10}, {-1, 5, -18}, {-3, 7, -66}, {5000, 40, 5120000}, {-5000, 40, -5120000}, {-5000, 0, -50000},
	} {
		if got := impl.LargeBack(c.level, c.qp); got != c.want {
			t.Errorf("LargeBack(%d, %d): %d; want %d", c.level, c.qp, got, c.want)
		}
	}
}

func TestWhatIsKeptIsOffByHalfAStepAtMost(t *testing.T) {
	for qp := 0; qp <= impl.MaxQp; qp++ {
		step := impl.StepOf(qp)
		for w := -impl.MaxTurned; w <= impl.MaxTurned; w++ {
			off := w - impl.LargeBack(impl.LargeLevel(w, qp), qp)
			if 2*off > step || -2*off > step {
				t.Fatalf("%d with the qp %d comes back off by %d, of a step of %d", w, qp, off, step)
			}
		}
	}
}

// What was kept is kept again as it is: a multiple of a step has its own level.
func TestWhatIsKeptStays(t *testing.T) {
	for qp := 0; qp <= impl.MaxQp; qp++ {
		for level := -impl.MaxLevel; level <= impl.MaxLevel; level++ {
			back := impl.LargeBack(level, qp)
			if back >= -impl.MaxTurned && back <= impl.MaxTurned && impl.LargeLevel(back, qp) != level {
				t.Fatalf("the level %d with the qp %d comes back as %d", level, qp, impl.LargeLevel(back, qp))
			}
		}
	}
}
