package tests

import (
	"math"
	"math/big"
	"math/rand"
	"slices"
	"testing"

	"loop.example/g00068/impl"
)

// lake is a right store: full at 1000, three rules, half full.
func lake() impl.Store {
	return impl.Store{
		Curve:  []impl.Mark{{Level: 5, Volume: 10}, {Level: 8, Volume: 20}, {Level: 30, Volume: 27}, {Level: 31, Volume: 1000}},
		Rules:  []impl.Rule{{From: 0, Give: 250}, {From: 20, Give: 500}, {From: 60, Give: 1000}},
		Volume: 500,
	}
}

// altered has a store of its own memory changed.
func altered(s impl.Store, change func(*impl.Store)) impl.Store {
	s.Curve, s.Rules = slices.Clone(s.Curve), slices.Clone(s.Rules)
	change(&s)
	return s
}

func slope(count int) []impl.Mark {
	curve := make([]impl.Mark, count)
	for i := range curve {
		curve[i] = impl.Mark{Level: int64(i), Volume: int64(2 * i)}
	}
	return curve
}

func ladder(count int) []impl.Rule {
	rules := make([]impl.Rule, count)
	for i := range rules {
		rules[i] = impl.Rule{From: int64(i), Give: int64(i % 1001)}
	}
	return rules
}

// wrongCurves are not right, but none is too long to be handed in.
func wrongCurves() map[string][]impl.Mark {
	least, most := int64(math.MinInt64), int64(math.MaxInt64)
	wrong := map[string][]impl.Mark{
		"none":              nil,
		"empty":             {},
		"one mark":          {{Level: 1, Volume: 1}},
		"one mark too many": slope(impl.MaxMarks + 1),
		"MaxList marks":     slope(impl.MaxList),
		"two alike":         {{Level: 1, Volume: 1}, {Level: 1, Volume: 1}},
		"going down":        {{Level: 2, Volume: 2}, {Level: 1, Volume: 1}},
		"levels alone rise": {{Level: 0, Volume: 5}, {Level: 1, Volume: 5}},
		"volumes alone":     {{Level: 5, Volume: 0}, {Level: 5, Volume: 1}},
		"levels go down":    {{Level: 5, Volume: 0}, {Level: 4, Volume: 1}},
		"volumes go down":   {{Level: 4, Volume: 5}, {Level: 5, Volume: 4}},
	}
	curve := lake().Curve
	for place := range curve {
		edit := func(what string, n int64, change func(*impl.Mark)) {
			other := slices.Clone(curve)
			change(&other[place])
			wrong[what+" of mark "+decimal(int64(place))+", "+decimal(n)] = other
		}
		for _, n := range []int64{-1, impl.MaxLevel + 1, least, most} {
			edit("Level", n, func(m *impl.Mark) { m.Level = n })
		}
		for _, n := range []int64{-1, impl.MaxWater + 1, least, most} {
			edit("Volume", n, func(m *impl.Mark) { m.Volume = n })
		}
		if place > 0 {
			edit("as the one ahead, Level", 0, func(m *impl.Mark) { m.Level = curve[place-1].Level })
			edit("as the one ahead, Volume", 0, func(m *impl.Mark) { m.Volume = curve[place-1].Volume })
			edit("below the one ahead, Level", 0, func(m *impl.Mark) { m.Level = curve[place-1].Level - 1 })
			edit("below the one ahead, Volume", 0, func(m *impl.Mark) { m.Volume = curve[place-1].Volume - 1 })
		}
	}
	return wrong
}

func rightCurves() map[string][]impl.Mark {
	return map[string][]impl.Mark{
		"two marks":        {{}, {Level: 1, Volume: 1}},
		"MaxMarks":         slope(impl.MaxMarks),
		"the whole room":   {{}, {Level: impl.MaxLevel, Volume: impl.MaxWater}},
		"steep at the end": {{Level: impl.MaxLevel - 1, Volume: 0}, {Level: impl.MaxLevel, Volume: impl.MaxWater}},
		"flat":             {{Level: 0, Volume: impl.MaxWater - 1}, {Level: impl.MaxLevel, Volume: impl.MaxWater}},
		"lake":             lake().Curve,
	}
}

// wrongStores are not right, each by one thing in it.
func wrongStores() map[string]impl.Store {
	least, most := int64(math.MinInt64), int64(math.MaxInt64)
	wrong := map[string]impl.Store{"all noughts": {}}
	edit := func(what string, n int64, change func(*impl.Store)) {
		wrong[what+", "+decimal(n)] = altered(lake(), change)
	}
	for what, curve := range wrongCurves() {
		wrong["a curve, "+what] = impl.Store{Curve: curve, Rules: []impl.Rule{{}}}
	}
	wrong["a curve of more than MaxList"] = impl.Store{Curve: slope(impl.MaxList + 1), Rules: []impl.Rule{{}}}
	for _, count := range []int{0, impl.MaxRules + 1, impl.MaxList, impl.MaxList + 1} {
		edit("so many rules", int64(count), func(s *impl.Store) { s.Rules = ladder(count) })
	}
	edit("no rules", 0, func(s *impl.Store) { s.Rules = nil })
	for place := range lake().Rules {
		at := decimal(int64(place))
		for _, n := range []int64{-1, 101, least, most} {
			edit("From of rule "+at, n, func(s *impl.Store) { s.Rules[place].From = n })
		}
		for _, n := range []int64{-1, 1001, least, most} {
			edit("Give of rule "+at, n, func(s *impl.Store) { s.Rules[place].Give = n })
		}
		if place > 0 {
			edit("From as the one ahead of "+at, 0, func(s *impl.Store) { s.Rules[place].From = s.Rules[place-1].From })
			edit("From below the one ahead of "+at, 0, func(s *impl.Store) { s.Rules[place].From = s.Rules[place-1].From - 1 })
		}
	}
	edit("From of the first rule", 1, func(s *impl.Store) { s.Rules[0].From = 1 })
	edit("From of the only rule", 1, func(s *impl.Store) { s.Rules = []impl.Rule{{From: 1, Give: 1}} })
	for _, n := range []int64{-1, 1001, least, most} {
		edit("Volume", n, func(s *impl.Store) { s.Volume = n })
	}
	return wrong
}

func TestStoreRight(t *testing.T) {
	for what, curve := range rightCurves() {
		full := curve[len(curve)-1].Volume
		for _, volume := range []int64{0, full / 2, full} {
			if !impl.StoreRight(impl.Store{Curve: curve, Rules: []impl.Rule{{}}, Volume: volume}) {
				t.Errorf("%s, Volume %d: StoreRight is false", what, volume)
			}
		}
		if impl.StoreRight(impl.Store{Curve: curve, Rules: []impl.Rule{{}}, Volume: full + 1}) {
			t.Errorf("%s, one more than full: StoreRight is true", what)
		}
	}
	for what, rules := range map[string][]impl.Rule{
		"MaxRules":           ladder(impl.MaxRules),
		"from nought to all": {{From: 0, Give: 1000}, {From: 100, Give: 0}},
		"ends side by side":  {{From: 0, Give: 0}, {From: 1, Give: 1000}, {From: 99, Give: 0}, {From: 100, Give: 1000}},
	} {
		if !impl.StoreRight(altered(lake(), func(s *impl.Store) { s.Rules = rules })) {
			t.Errorf("rules, %s: StoreRight is false", what)
		}
	}
	for what, s := range wrongStores() {
		if impl.StoreRight(s) {
			t.Errorf("%s: StoreRight is true", what)
		}
	}
}

// plainAlong reads a line through a curve's points by great numbers.
func plainAlong(points [][2]int64, at int64) int64 {
	if at <= points[0][0] {
		return points[0][1]
	}
	for i := 1; i < len(points); i++ {
		if at > points[i][0] {
			continue
		}
		wide, high := points[i][0]-points[i-1][0], points[i][1]-points[i-1][1]
		rise := new(big.Int).Mul(big.NewInt(at-points[i-1][0]), big.NewInt(high))
		return points[i-1][1] + rise.Div(rise, big.NewInt(wide)).Int64()
	}
	return points[len(points)-1][1]
}

func plainLevel(curve []impl.Mark, volume int64) int64 {
	var points [][2]int64
	for _, m := range curve {
		points = append(points, [2]int64{m.Volume, m.Level})
	}
	return plainAlong(points, volume)
}

func plainVolume(curve []impl.Mark, level int64) int64 {
	var points [][2]int64
	for _, m := range curve {
		points = append(points, [2]int64{m.Level, m.Volume})
	}
	return plainAlong(points, level)
}

// sameAlong also holds the curve against what it was.
func sameAlong(t *testing.T, what string, tell func([]impl.Mark, int64) int64, curve []impl.Mark, at int64, want int64) {
	t.Helper()
	before := slices.Clone(curve)
	if got := tell(curve, at); got != want {
		t.Errorf("%s, of %d: got %d, want %d", what, at, got, want)
	}
	if !slices.Equal(curve, before) {
		t.Errorf("%s: the curve was changed", what)
	}
}

func sameLevel(t *testing.T, what string, curve []impl.Mark, volume int64, want int64) {
	t.Helper()
	sameAlong(t, "LevelAt, "+what, impl.LevelAt, curve, volume, want)
}

func sameVolume(t *testing.T, what string, curve []impl.Mark, level int64, want int64) {
	t.Helper()
	sameAlong(t, "VolumeAt, "+what, impl.VolumeAt, curve, level, want)
}

func TestLevelAtByHand(t *testing.T) {
	for _, c := range [][2]int64{{10, 5}, {11, 5}, {13, 5}, {14, 6}, {16, 6}, {17, 7}, {19, 7}, {20, 8}, {21, 11}, {26, 26},
		{27, 30}, {28, 30}, {999, 30}, {1000, 31}} {
		sameLevel(t, "lake", lake().Curve, c[0], c[1])
	}
	for _, below := range []int64{9, 1, 0, -1, math.MinInt64} {
		sameLevel(t, "below the first one", lake().Curve, below, 5)
	}
	for _, above := range []int64{1001, impl.MaxWater, math.MaxInt64} {
		sameLevel(t, "above the last one", lake().Curve, above, 31)
	}
}

func TestVolumeAtByHand(t *testing.T) {
	for _, c := range [][2]int64{{5, 10}, {6, 13}, {7, 16}, {8, 20}, {9, 20}, {11, 20}, {12, 21}, {29, 26}, {30, 27}, {31, 1000}} {
		sameVolume(t, "lake", lake().Curve, c[0], c[1])
	}
	for _, below := range []int64{4, 0, -1, math.MinInt64} {
		sameVolume(t, "below the first one", lake().Curve, below, 10)
	}
	for _, above := range []int64{32, impl.MaxLevel, math.MaxInt64} {
		sameVolume(t, "above the last one", lake().Curve, above, 1000)
	}
}

func TestCurvesOfTheMost(t *testing.T) {
	whole := rightCurves()["the whole room"]
	sameLevel(t, "the whole room", whole, impl.MaxWater-1, impl.MaxLevel-1)
	sameLevel(t, "the whole room", whole, impl.MaxWater, impl.MaxLevel)
	sameVolume(t, "the whole room", whole, impl.MaxLevel-1, impl.MaxWater-10000)
	steep := rightCurves()["steep at the end"]
	sameLevel(t, "steep", steep, impl.MaxWater-1, impl.MaxLevel-1)
	sameVolume(t, "steep", steep, impl.MaxLevel, impl.MaxWater)
	flat := rightCurves()["flat"]
	sameLevel(t, "flat", flat, impl.MaxWater-1, 0)
	sameVolume(t, "flat", flat, impl.MaxLevel-1, impl.MaxWater-1)
}

func TestWrongCurves(t *testing.T) {
	wrong := wrongCurves()
	wrong["more than MaxList"] = slope(impl.MaxList + 1)
	for what, curve := range wrong {
		for _, at := range []int64{math.MinInt64, -1, 0, 1, 7, 12, 1000, math.MaxInt64} {
			sameLevel(t, what, curve, at, 0)
			sameVolume(t, what, curve, at, 0)
		}
	}
}

// anyCurve has its steps small or great, and often begins above nought.
func anyCurve(random *rand.Rand) []impl.Mark {
	count := 2 + random.Intn(impl.MaxMarks-1)
	levels, volumes := int64(impl.MaxLevel/impl.MaxMarks), int64(impl.MaxWater/impl.MaxMarks)
	if random.Intn(2) == 0 {
		levels = 1 + random.Int63n(20)
	}
	if random.Intn(2) == 0 {
		volumes = 1 + random.Int63n(100)
	}
	curve := []impl.Mark{{Level: anyNumber(random, levels), Volume: anyNumber(random, volumes)}}
	for len(curve) < count {
		last := curve[len(curve)-1]
		curve = append(curve, impl.Mark{Level: last.Level + 1 + random.Int63n(levels), Volume: last.Volume + 1 + random.Int63n(volumes)})
	}
	return curve
}

func TestCurvesOfAnyKind(t *testing.T) {
	random := rand.New(rand.NewSource(41))
	for range 500 {
		curve := anyCurve(random)
		first, last := curve[0], curve[len(curve)-1]
		if !impl.StoreRight(impl.Store{Curve: curve, Rules: []impl.Rule{{}}}) {
			t.Fatalf("not right: %+v", curve)
		}
		for range 40 {
			volume := first.Volume - 2 + random.Int63n(last.Volume-first.Volume+5)
			sameLevel(t, "any curve", curve, volume, plainLevel(curve, volume))
			level := first.Level - 2 + random.Int63n(last.Level-first.Level+5)
			sameVolume(t, "any curve", curve, level, plainVolume(curve, level))
		}
		for _, m := range curve {
			sameLevel(t, "at a mark", curve, m.Volume, m.Level)
			sameVolume(t, "at a mark", curve, m.Level, m.Volume)
		}
	}
}
