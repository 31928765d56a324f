package tests

import (
	"math"
	"math/rand"
	"slices"
	"testing"

	"loop.example/g00068/impl"
)

func district(ins []int64, outs []int64, used []int64) impl.District {
	return impl.District{Ins: ins, Outs: outs, Used: used}
}

func copiedDistrict(d impl.District) impl.District {
	return district(slices.Clone(d.Ins), slices.Clone(d.Outs), slices.Clone(d.Used))
}

func sameDistrict(t *testing.T, what string, d impl.District, want impl.DistrictOut) {
	t.Helper()
	before := copiedDistrict(d)
	if got := impl.DistrictBook(d); got != want {
		t.Errorf("DistrictBook, %s: got %+v, want %+v", what, got, want)
	}
	if !slices.Equal(d.Ins, before.Ins) || !slices.Equal(d.Outs, before.Outs) || !slices.Equal(d.Used, before.Used) {
		t.Errorf("DistrictBook, %s: the district was changed", what)
	}
}

func districtFault(code int64) impl.DistrictOut {
	return impl.DistrictOut{Code: code}
}

func lostWorst(lost int64, worst int64) impl.DistrictOut {
	return impl.DistrictOut{Lost: lost, Worst: worst}
}

func numbers(n int64, count int) []int64 {
	return slices.Repeat([]int64{n}, count)
}

func TestDistrictByHand(t *testing.T) {
	most := int64(impl.MaxFlow)
	one := func(in int64, out int64, used int64) impl.District {
		return district([]int64{in}, []int64{out}, []int64{used})
	}
	sameDistrict(t, "the first place", district([]int64{10, 5}, []int64{1, 0}, []int64{5, 5}), lostWorst(4, 0))
	sameDistrict(t, "the second place", district([]int64{5, 10}, []int64{0, 1}, []int64{5, 5}), lostWorst(4, 1))
	sameDistrict(t, "the first of several", district([]int64{1, 9, 3, 9}, []int64{0, 4, 0, 0}, []int64{0, 0, 0, 4}), lostWorst(14, 1))
	sameDistrict(t, "less than nothing lost", district([]int64{1, 1, 1}, []int64{2, 1, 0}, []int64{2, 1, 3}), lostWorst(-6, 1))
	sameDistrict(t, "nothing lost", district(numbers(3, 2), numbers(1, 2), numbers(2, 2)), lostWorst(0, 0))
	sameDistrict(t, "one place", one(7, 1, 2), lostWorst(4, 0))
	sameDistrict(t, "one place, less than nothing", one(0, 1, 2), lostWorst(-3, 0))
	sameDistrict(t, "all noughts", one(0, 0, 0), lostWorst(0, 0))
	sameDistrict(t, "the most in", one(most, 0, 0), lostWorst(most, 0))
	sameDistrict(t, "the most out", one(0, most, 0), lostWorst(-most, 0))
	sameDistrict(t, "the most used", one(0, 0, most), lostWorst(-most, 0))
	sameDistrict(t, "the most of all", one(most, most, most), lostWorst(-most, 0))
	sameDistrict(t, "no places, nil", impl.District{}, lostWorst(0, -1))
	sameDistrict(t, "no places", district([]int64{}, nil, []int64{}), lostWorst(0, -1))
}

func TestDistrictSize(t *testing.T) {
	full, over := numbers(1, impl.MaxList), numbers(1, impl.MaxList+1)
	sameDistrict(t, "MaxList places", district(full, full, full), lostWorst(-impl.MaxList, 0))
	last := slices.Clone(full)
	last[impl.MaxList-1] = 2
	sameDistrict(t, "the worst one last", district(last, full, full), lostWorst(1-impl.MaxList, impl.MaxList-1))
	most := numbers(impl.MaxFlow, impl.MaxList)
	sameDistrict(t, "MaxList of the most", district(most, numbers(0, impl.MaxList), numbers(0, impl.MaxList)),
		lostWorst(impl.MaxFlow*impl.MaxList, 0))
	sameDistrict(t, "one more of all", district(over, over, over), districtFault(impl.ErrSize))
	sameDistrict(t, "one more of Ins", district(over, full, full), districtFault(impl.ErrSize))
	sameDistrict(t, "one more of Outs", district(full, over, full), districtFault(impl.ErrSize))
	sameDistrict(t, "one more of Used", district(full, full, over), districtFault(impl.ErrSize))
	sameDistrict(t, "one more of Used and nothing else", district(nil, nil, over), districtFault(impl.ErrSize))
	wrong := numbers(-1, impl.MaxList+1)
	sameDistrict(t, "one more, and all wrong", district(wrong, wrong, wrong), districtFault(impl.ErrSize))
	sameDistrict(t, "one more of Outs, and Ins wrong", district([]int64{-1}, over, nil), districtFault(impl.ErrSize))
}

func TestDistrictForm(t *testing.T) {
	two, three := numbers(1, 2), numbers(1, 3)
	fault := districtFault(impl.ErrForm)
	for what, d := range map[string]impl.District{
		"Ins longer":        district(three, two, two),
		"Outs longer":       district(two, three, two),
		"Used longer":       district(two, two, three),
		"Ins shorter":       district(two, three, three),
		"Outs shorter":      district(three, two, three),
		"Used shorter":      district(three, three, two),
		"Ins alone":         district(two, nil, nil),
		"Outs alone":        district(nil, two, nil),
		"Used alone":        district(nil, nil, two),
		"no Ins":            district(nil, two, two),
		"MaxList and fewer": district(numbers(1, impl.MaxList), two, two),
	} {
		sameDistrict(t, what, d, fault)
	}
	for what, n := range beside(0, impl.MaxFlow) {
		for place := range 3 {
			wrong := numbers(1, 3)
			wrong[place] = n
			sameDistrict(t, "Ins "+what, district(wrong, three, three), fault)
			sameDistrict(t, "Outs "+what, district(three, wrong, three), fault)
			sameDistrict(t, "Used "+what, district(three, three, wrong), fault)
		}
	}
	sameDistrict(t, "numbers that would make up for each other",
		district([]int64{math.MinInt64}, []int64{math.MinInt64}, []int64{0}), fault)
}

func anyDistrict(random *rand.Rand, count int) impl.District {
	most := []int64{3, 100, impl.MaxFlow}[random.Intn(3)]
	var d impl.District
	for range count {
		d.Ins = append(d.Ins, anyNumber(random, most))
		d.Outs = append(d.Outs, anyNumber(random, most))
		d.Used = append(d.Used, anyNumber(random, most))
	}
	return d
}
