package tests

import (
	"math"
	"slices"
	"testing"

	"loop.example/g00324/impl"
)

// bitsOf: the flags of a number 0 .. 7 written out, seen first.
func bitsOf(n int) []int {
	return [][]int{{0, 0, 0}, {1, 0, 0}, {0, 1, 0}, {1, 1, 0}, {0, 0, 1}, {1, 0, 1}, {0, 1, 1}, {1, 1, 1}}[n]
}

func flagsOf(n int, s impl.Stamp) []impl.Reg {
	var list []impl.Reg
	for _, bit := range bitsOf(n) {
		list = append(list, impl.Reg{Val: bit, Stamp: s})
	}
	return list
}

// ownStamps are three right stamps, none of them like another: a flag that took another one's would be seen.
func ownStamps() []impl.Stamp {
	return []impl.Stamp{stampOf(4, 1), stampOf(9, 0), stampOf(4, 2)}
}

func flagsWithStamps(n int, stamps []impl.Stamp) []impl.Reg {
	list := flagsOf(n, impl.Stamp{})
	for i, s := range stamps {
		list[i].Stamp = s
	}
	return list
}

// wrongFlags: lists that are no flags, each for one cause alone.
func wrongFlags() [][]impl.Reg {
	right := flagsWithStamps(5, ownStamps())
	list := [][]impl.Reg{nil, {}, right[:1], right[:2], append(slices.Clone(right), regOf(0, 1, 1)), slices.Concat(right, right)}
	for place := range right {
		for _, val := range []int{math.MinInt, -2, -1, 2, 3, impl.MaxNumber, impl.MaxNumber + 1, math.MaxInt} {
			other := slices.Clone(right)
			other[place].Val = val
			list = append(list, other)
		}
		for _, s := range wrongStamps() {
			other := slices.Clone(right)
			other[place].Stamp = s
			list = append(list, other)
		}
	}
	return list
}

func wrongStamps() []impl.Stamp {
	return []impl.Stamp{stampOf(-1, 0), stampOf(-1, 2), stampOf(impl.MaxTime+1, 0), stampOf(50, -1), stampOf(50, 3), stampOf(math.MaxInt, 1), stampOf(math.MinInt, 1), stampOf(50, math.MaxInt), stampOf(50, math.MinInt)}
}

func wrongFlagNumbers() []int {
	return []int{-1, 8, -8, -7, 9, 13, 15, 16, 1 << 32, math.MaxInt, math.MinInt}
}

func TestFlagCount(t *testing.T) {
	if impl.FlagCount != 3 {
		t.Errorf("FlagCount = %d", impl.FlagCount)
	}
}

func TestFlagsNew(t *testing.T) {
	for _, s := range []impl.Stamp{{}, stampOf(1, 1), stampOf(7, 2), stampOf(impl.MaxTime, 2)} {
		for n := range 8 {
			list := impl.FlagsNew(n, s)
			if !slices.Equal(list, flagsOf(n, s)) {
				t.Errorf("FlagsNew(%d, %v) = %v", n, s, list)
			}
			if !impl.FlagsOk(list) {
				t.Errorf("FlagsNew(%d, %v) is not right: %v", n, s, list)
			}
			if got := impl.FlagsOf(list); got != n {
				t.Errorf("FlagsOf(FlagsNew(%d, %v)) = %d", n, s, got)
			}
		}
	}
}

// TestFlagsNewOfOtherNumbers: of any number its three lowest bits are looked at, and nothing else.
func TestFlagsNewOfOtherNumbers(t *testing.T) {
	s := stampOf(3, 1)
	for n, want := range map[int]int{8: 0, 9: 1, 10: 2, 12: 4, 15: 7, 16: 0, 1 << 40: 0, 1<<40 + 5: 5, math.MaxInt: 7, math.MaxInt - 1: 6,
		-1: 7, -2: 6, -3: 5, -4: 4, -5: 3, -6: 2, -7: 1, -8: 0, -9: 7, math.MinInt: 0, math.MinInt + 3: 3} {
		if got := impl.FlagsNew(n, s); !slices.Equal(got, flagsOf(want, s)) {
			t.Errorf("FlagsNew(%d, %v) = %v; want those of %d", n, s, got, want)
		}
	}
}

func TestFlagsNewKeepsAnyStamp(t *testing.T) {
	for _, s := range stampsAround() {
		list := impl.FlagsNew(5, s)
		if !slices.Equal(list, flagsOf(5, s)) {
			t.Errorf("FlagsNew(5, %v) = %v", s, list)
		}
		if got := impl.FlagsOk(list); got != impl.StampOk(s) {
			t.Errorf("FlagsOk(%v) = %v", list, got)
		}
	}
}

func TestFlagsOk(t *testing.T) {
	for n := range 8 {
		for _, list := range [][]impl.Reg{flagsOf(n, impl.Stamp{}), flagsOf(n, stampOf(impl.MaxTime, 2)), flagsWithStamps(n, ownStamps())} {
			if !impl.FlagsOk(list) {
				t.Errorf("FlagsOk(%v) = false", list)
			}
		}
	}
	for _, list := range wrongFlags() {
		if impl.FlagsOk(list) {
			t.Errorf("FlagsOk(%v) = true", list)
		}
	}
}

func TestFlagsOkOfEachReg(t *testing.T) {
	for place := range impl.FlagCount {
		for _, r := range regsAround() {
			list := flagsWithStamps(2, ownStamps())
			list[place] = r
			want := impl.StampOk(r.Stamp) && (r.Val == 0 || r.Val == 1)
			if got := impl.FlagsOk(list); got != want {
				t.Errorf("FlagsOk(%v) = %v", list, got)
			}
		}
	}
}

func TestFlagsOf(t *testing.T) {
	one, none := regOf(1, 3, 1), regOf(0, 3, 1)
	for _, c := range []struct {
		list []impl.Reg
		want int
	}{
		{[]impl.Reg{one, none, none}, 1}, {[]impl.Reg{none, one, none}, 2}, {[]impl.Reg{none, none, one}, 4}, {[]impl.Reg{one, one, one}, 7}, {[]impl.Reg{none, none, none}, 0},
		{nil, 0}, {[]impl.Reg{}, 0}, {[]impl.Reg{one}, 1}, {[]impl.Reg{none}, 0}, {[]impl.Reg{one, one}, 3}, {[]impl.Reg{none, one}, 2},
		{[]impl.Reg{none, none, none, one}, 0}, {[]impl.Reg{one, none, one, one, one}, 5}, {slices.Repeat([]impl.Reg{one}, 100), 7}, {slices.Repeat([]impl.Reg{none}, 100), 0},
		{append(slices.Repeat([]impl.Reg{none}, 3), slices.Repeat([]impl.Reg{one}, 70)...), 0},
	} {
		if got := impl.FlagsOf(c.list); got != c.want {
			t.Errorf("FlagsOf(%v) = %d; want %d", c.list, got, c.want)
		}
	}
}

// TestFlagsOfOddAndEven: whatever the number is otherwise, and whatever its stamp.
func TestFlagsOfOddAndEven(t *testing.T) {
	odd := []int{1, 3, 5, -1, -3, -255, impl.MaxNumber - 1, impl.MaxNumber + 1, math.MaxInt, math.MinInt + 1}
	even := []int{0, 2, 4, -2, -4, -256, impl.MaxNumber, impl.MaxNumber + 2, math.MaxInt - 1, math.MinInt}
	for place := range impl.FlagCount {
		for i := range odd {
			for _, s := range []impl.Stamp{{}, stampOf(3, 1), stampOf(-1, 5)} {
				list := slices.Repeat([]impl.Reg{{Val: even[i], Stamp: s}}, impl.FlagCount)
				if got := impl.FlagsOf(list); got != 0 {
					t.Errorf("FlagsOf(%v) = %d", list, got)
				}
				list[place].Val = odd[i]
				if got := impl.FlagsOf(list); got != 1<<place {
					t.Errorf("FlagsOf(%v) = %d", list, got)
				}
			}
		}
	}
}

func TestSetFlags(t *testing.T) {
	list := flagsWithStamps(5, ownStamps()) // 1, 0, 1
	a, b, c := list[0], list[1], list[2]
	s := stampOf(20, 2)
	for n, want := range [][]impl.Reg{
		{{Val: 0, Stamp: s}, b, {Val: 0, Stamp: s}},
		{a, b, {Val: 0, Stamp: s}},
		{{Val: 0, Stamp: s}, {Val: 1, Stamp: s}, {Val: 0, Stamp: s}},
		{a, {Val: 1, Stamp: s}, {Val: 0, Stamp: s}},
		{{Val: 0, Stamp: s}, b, c},
		{a, b, c},
		{{Val: 0, Stamp: s}, {Val: 1, Stamp: s}, c},
		{a, {Val: 1, Stamp: s}, c},
	} {
		got := impl.SetFlags(list, n, s)
		if !slices.Equal(got, want) {
			t.Errorf("SetFlags(%v, %d, %v) = %v; want %v", list, n, s, got, want)
		}
		if impl.FlagsOf(got) != n || !impl.FlagsOk(got) {
			t.Errorf("SetFlags(%v, %d, %v) = %v: %d, right: %v", list, n, s, got, impl.FlagsOf(got), impl.FlagsOk(got))
		}
	}
}

// TestSetFlagsThatNothingChanges: a flag that is what it would be keeps its stamp, however late the other one is.
func TestSetFlagsThatNothingChanges(t *testing.T) {
	for n := range 8 {
		list := flagsWithStamps(n, ownStamps())
		for _, s := range append(append(stampsAround(), ownStamps()...), wrongStamps()...) {
			if got := impl.SetFlags(list, n, s); !slices.Equal(got, list) {
				t.Errorf("SetFlags(%v, %d, %v) = %v", list, n, s, got)
			}
		}
	}
}

// TestSetFlagsByStamp: each flag that would change does so by its own stamp, whatever becomes of the others.
func TestSetFlagsByStamp(t *testing.T) {
	list := flagsWithStamps(0, ownStamps()) // {4 1}, {9 0}, {4 2}
	for _, c := range []struct {
		s    impl.Stamp
		want int
	}{
		{stampOf(20, 0), 7}, {stampOf(9, 1), 7}, {stampOf(10, 0), 7}, {stampOf(impl.MaxTime, 0), 7}, {stampOf(impl.MaxTime, 2), 7},
		{stampOf(9, 0), 5}, {stampOf(8, 2), 5}, {stampOf(5, 0), 5},
		{stampOf(4, 2), 1},
		{stampOf(4, 1), 0}, {stampOf(4, 0), 0}, {stampOf(3, 2), 0}, {stampOf(0, 0), 0},
	} {
		want := slices.Clone(list)
		for i, bit := range bitsOf(c.want) {
			if bit == 1 {
				want[i] = impl.Reg{Val: 1, Stamp: c.s}
			}
		}
		if got := impl.SetFlags(list, 7, c.s); !slices.Equal(got, want) {
			t.Errorf("SetFlags(%v, 7, %v) = %v; want %v", list, c.s, got, want)
		}
	}
	for _, s := range wrongStamps() {
		for n := range 8 {
			if got := impl.SetFlags(list, n, s); !slices.Equal(got, list) {
				t.Errorf("SetFlags(%v, %d, %v) = %v", list, n, s, got)
			}
		}
	}
}

func TestSetFlagsEverywhere(t *testing.T) {
	for old := range 8 {
		list := flagsWithStamps(old, ownStamps())
		for n := range 8 {
			for _, s := range append(stampsAround(), ownStamps()...) {
				want := slices.Clone(list)
				for i, bit := range bitsOf(n) {
					if bit != list[i].Val && impl.StampOk(s) && stampOrder(s, list[i].Stamp) > 0 {
						want[i] = impl.Reg{Val: bit, Stamp: s}
					}
				}
				if got := impl.SetFlags(list, n, s); !slices.Equal(got, want) {
					t.Fatalf("SetFlags(%v, %d, %v) = %v; want %v", list, n, s, got, want)
				}
			}
		}
	}
}

func TestSetFlagsOfWrongNumbers(t *testing.T) {
	for old := range 8 {
		list := flagsWithStamps(old, ownStamps())
		for _, n := range wrongFlagNumbers() {
			if got := impl.SetFlags(list, n, stampOf(20, 2)); !slices.Equal(got, list) {
				t.Errorf("SetFlags(%v, %d, {20 2}) = %v", list, n, got)
			}
		}
	}
}

func TestSetFlagsOfWhatIsNotRight(t *testing.T) {
	for _, list := range wrongFlags() {
		for n := -1; n <= 8; n++ {
			for _, s := range []impl.Stamp{stampOf(impl.MaxTime, 2), stampOf(20, 2), {}, stampOf(20, 3)} {
				if got := impl.SetFlags(list, n, s); !slices.Equal(got, list) {
					t.Errorf("SetFlags(%v, %d, %v) = %v", list, n, s, got)
				}
			}
		}
	}
}

func TestJoinFlags(t *testing.T) {
	for _, c := range []struct{ a, b, want []impl.Reg }{
		// Each by itself: the first is later on one side, the second on the other, the third is alike but for its value.
		{[]impl.Reg{regOf(1, 5, 1), regOf(0, 2, 1), regOf(0, 3, 1)}, []impl.Reg{regOf(0, 4, 2), regOf(1, 2, 2), regOf(1, 3, 1)}, []impl.Reg{regOf(1, 5, 1), regOf(1, 2, 2), regOf(1, 3, 1)}},
		{[]impl.Reg{regOf(0, 5, 1), regOf(0, 5, 1), regOf(0, 5, 1)}, []impl.Reg{regOf(1, 4, 2), regOf(1, 5, 2), regOf(1, 5, 0)}, []impl.Reg{regOf(0, 5, 1), regOf(1, 5, 2), regOf(0, 5, 1)}},
		{flagsWithStamps(5, ownStamps()), flagsWithStamps(5, ownStamps()), flagsWithStamps(5, ownStamps())},
		{flagsWithStamps(5, ownStamps()), flagsWithStamps(6, ownStamps()), flagsWithStamps(7, ownStamps())},
		// As long as both have one.
		{nil, nil, nil}, {nil, flagsOf(7, stampOf(1, 1)), nil}, {[]impl.Reg{}, flagsOf(7, stampOf(1, 1)), nil},
		{[]impl.Reg{regOf(0, 2, 1)}, flagsOf(7, stampOf(1, 1)), []impl.Reg{regOf(0, 2, 1)}},
		{[]impl.Reg{regOf(0, 2, 1), regOf(0, 0, 1)}, flagsOf(7, stampOf(1, 1)), []impl.Reg{regOf(0, 2, 1), regOf(1, 1, 1)}},
		{append(flagsOf(0, stampOf(2, 1)), regOf(1, 9, 1)), flagsOf(7, stampOf(1, 1)), flagsOf(0, stampOf(2, 1))},
		{append(flagsOf(0, stampOf(2, 1)), regOf(5, 9, 1), regOf(1, 1, 1)), append(flagsOf(7, stampOf(1, 1)), regOf(6, 8, 1)), append(flagsOf(0, stampOf(2, 1)), regOf(5, 9, 1))},
		// What is not right is joined by the same numbers.
		{[]impl.Reg{regOf(-1, 5, 1), regOf(2, 2, 1), regOf(1, -1, 1)}, []impl.Reg{regOf(0, 4, 2), regOf(3, 2, 1), regOf(0, -2, 9)}, []impl.Reg{regOf(-1, 5, 1), regOf(3, 2, 1), regOf(1, -1, 1)}},
		{[]impl.Reg{regOf(0, impl.MaxTime+1, 0), regOf(0, 3, 3), regOf(0, 3, -1)}, []impl.Reg{regOf(1, impl.MaxTime, 2), regOf(1, 3, 2), regOf(-1, 3, -1)}, []impl.Reg{regOf(0, impl.MaxTime+1, 0), regOf(0, 3, 3), regOf(0, 3, -1)}},
	} {
		if got := impl.JoinFlags(c.a, c.b); !slices.Equal(got, c.want) {
			t.Errorf("JoinFlags(%v, %v) = %v; want %v", c.a, c.b, got, c.want)
		}
		if got := impl.JoinFlags(c.b, c.a); !slices.Equal(got, c.want) {
			t.Errorf("JoinFlags(%v, %v) = %v; want %v", c.b, c.a, got, c.want)
		}
	}
}

func TestJoinFlagsOfUnlikeLengths(t *testing.T) {
	regs := someRegs()
	for sizeA := range 6 {
		for sizeB := range 6 {
			for from := range len(regs) - 12 {
				a, b := regs[from:from+sizeA], regs[from+6:from+6+sizeB]
				var want []impl.Reg
				for i := range min(sizeA, sizeB) {
					want = append(want, slices.MaxFunc([]impl.Reg{a[i], b[i]}, regOrder))
				}
				if got := impl.JoinFlags(a, b); !slices.Equal(got, want) {
					t.Fatalf("JoinFlags(%v, %v) = %v; want %v", a, b, got, want)
				}
			}
		}
	}
}

// someFlags: all values with stamps of which some are like, and some cross each other.
func someFlags() [][]impl.Reg {
	var list [][]impl.Reg
	for n := range 8 {
		list = append(list, flagsOf(n, stampOf(4, 1)), flagsWithStamps(n, ownStamps()), flagsWithStamps(n, []impl.Stamp{stampOf(9, 0), stampOf(4, 2), stampOf(4, 1)}))
	}
	return append(list, nil, flagsOf(5, stampOf(6, 1))[:2], append(flagsOf(2, stampOf(6, 1)), regOf(1, 1, 1)), []impl.Reg{regOf(-1, 4, 1), regOf(2, 4, 1), regOf(1, -1, 9)})
}

// TestJoinFlagsInEveryOrder: three come to one, whichever is first, whichever two are joined first, and when one of them comes twice.
func TestJoinFlagsInEveryOrder(t *testing.T) {
	lists := someFlags()
	for i, a := range lists {
		for j, b := range lists[:i+1] {
			for _, c := range lists[:j+1] {
				three := [][]impl.Reg{a, b, c}
				var want []impl.Reg
				for place := range min(len(a), len(b), len(c)) {
					want = append(want, slices.MaxFunc([]impl.Reg{a[place], b[place], c[place]}, regOrder))
				}
				for _, order := range orders(3) {
					x, y, z := three[order[0]], three[order[1]], three[order[2]]
					left := impl.JoinFlags(impl.JoinFlags(x, y), z)
					right := impl.JoinFlags(x, impl.JoinFlags(y, z))
					twice := impl.JoinFlags(impl.JoinFlags(left, x), y)
					if !slices.Equal(left, want) || !slices.Equal(right, want) || !slices.Equal(twice, want) {
						t.Fatalf("of %v, %v, %v come %v, %v, %v; want %v", x, y, z, left, right, twice, want)
					}
				}
			}
		}
	}
}

func TestJoinFlagsWithItself(t *testing.T) {
	for _, list := range append(someFlags(), wrongFlags()...) {
		if got := impl.JoinFlags(list, list); !slices.Equal(got, list) {
			t.Errorf("JoinFlags(%v, itself) = %v", list, got)
		}
	}
}

// TestFlagsComeTogether: of two who change the same mail apart from each other, each change of a flag stays, and the later one of two on one flag. It would not, if a flag that nobody touched took the later stamp.
func TestFlagsComeTogether(t *testing.T) {
	base := stampOf(1, 1)
	one, two := stampOf(2, 1), stampOf(3, 2)
	for old := range 8 {
		for first := range 8 {
			for second := range 8 {
				start := impl.FlagsNew(old, base)
				a, b := impl.SetFlags(start, first, one), impl.SetFlags(start, second, two)
				want := old&^(old^second)&^(old^first) | first&(old^first)&^(old^second) | second&(old^second)
				for _, joined := range [][]impl.Reg{impl.JoinFlags(a, b), impl.JoinFlags(b, a), impl.JoinFlags(impl.JoinFlags(start, b), a)} {
					if got := impl.FlagsOf(joined); got != want || !impl.FlagsOk(joined) {
						t.Fatalf("from %d, one sets %d, the other one %d: %v, %d; want %d", old, first, second, joined, got, want)
					}
				}
			}
		}
	}
}

// TestSetFlagsAfterJoin: what is set with a stamp later than all that was seen counts, and stays when the older ones come again.
func TestSetFlagsAfterJoin(t *testing.T) {
	for _, a := range someFlags() {
		for _, b := range someFlags() {
			joined := impl.JoinFlags(a, b)
			if !impl.FlagsOk(joined) {
				continue
			}
			for n := range 8 {
				set := impl.SetFlags(joined, n, stampOf(10, 0))
				again := impl.JoinFlags(impl.JoinFlags(b, set), a)
				if impl.FlagsOf(set) != n || !slices.Equal(again, set) {
					t.Fatalf("%v set to %d: %v, and joined with both again: %v", joined, n, set, again)
				}
			}
		}
	}
}

// withRoom has room behind its end, with marks in it that nobody may touch.
func withRoom(list []impl.Reg) []impl.Reg {
	room := slices.Concat(list, []impl.Reg{regOf(77, 7, 7), regOf(78, 7, 7), regOf(79, 7, 7), regOf(80, 7, 7)})
	return room[:len(list)]
}

// spoil turns all that a list has, and what is behind its end.
func spoil(list []impl.Reg) {
	list = list[:cap(list)]
	for i := range list {
		list[i] = regOf(-9, -9, -9)
	}
}

func TestFlagsLeaveTheirArguments(t *testing.T) {
	for _, right := range append(someFlags(), wrongFlags()...) {
		list, other := withRoom(right), withRoom(flagsOf(3, stampOf(5, 1)))
		whole, otherWhole := slices.Clone(list[:cap(list)]), slices.Clone(other[:cap(other)])
		impl.FlagsOk(list)
		impl.FlagsOf(list)
		for n := -1; n <= 8; n++ {
			impl.SetFlags(list, n, stampOf(20, 2))
		}
		impl.JoinFlags(list, other)
		impl.JoinFlags(other, list)
		if !slices.Equal(list[:cap(list)], whole) || !slices.Equal(other[:cap(other)], otherWhole) {
			t.Fatalf("%v was written into, or behind its end", right)
		}
	}
}

// TestFlagsNewMemory: what is answered stays as it is when the argument is changed behind the call, and the other way round.
func TestFlagsNewMemory(t *testing.T) {
	for _, given := range append(someFlags(), wrongFlags()...) {
		for _, call := range []func(list []impl.Reg) []impl.Reg{
			func(list []impl.Reg) []impl.Reg { return impl.SetFlags(list, 2, stampOf(20, 2)) },
			func(list []impl.Reg) []impl.Reg { return impl.SetFlags(list, impl.FlagsOf(list), stampOf(20, 2)) },
			func(list []impl.Reg) []impl.Reg { return impl.SetFlags(list, 2, stampOf(0, 0)) },
			func(list []impl.Reg) []impl.Reg { return impl.SetFlags(list, 8, stampOf(20, 2)) },
			func(list []impl.Reg) []impl.Reg { return impl.SetFlags(list, 2, stampOf(20, 3)) },
			func(list []impl.Reg) []impl.Reg { return impl.JoinFlags(list, list) },
			func(list []impl.Reg) []impl.Reg { return impl.JoinFlags(list, flagsOf(3, stampOf(0, 0))) },
			func(list []impl.Reg) []impl.Reg { return impl.JoinFlags(flagsOf(3, stampOf(0, 0)), list) },
		} {
			list := withRoom(given)
			answer := call(list)
			kept := slices.Clone(answer)
			spoil(list)
			if !slices.Equal(answer, kept) {
				t.Fatalf("of %v: %v became %v when the argument was changed", given, kept, answer)
			}
			list = withRoom(given)
			whole := slices.Clone(list[:cap(list)])
			spoil(call(list))
			if !slices.Equal(list[:cap(list)], whole) {
				t.Fatalf("%v became %v when the answer was changed", whole, list[:cap(list)])
			}
		}
	}
}

func TestFlagsNewAnswersApart(t *testing.T) {
	s := stampOf(3, 1)
	spoil(impl.FlagsNew(5, s))
	if got := impl.FlagsNew(5, s); !slices.Equal(got, flagsOf(5, s)) {
		t.Errorf("FlagsNew(5, %v) after its answer was changed = %v", s, got)
	}
}
