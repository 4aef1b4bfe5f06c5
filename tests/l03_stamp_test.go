package tests

import (
	"math"
	"slices"
	"testing"

	"loop.example/g00324/impl"
)

func stampOf(time, by int) impl.Stamp {
	return impl.Stamp{Time: time, By: by}
}

func regOf(val, time, by int) impl.Reg {
	return impl.Reg{Val: val, Stamp: stampOf(time, by)}
}

// stampsAround: what is right up to both limits of each field, what is just past them, and the ends of int, where a difference would wrap round.
func stampsAround() []impl.Stamp {
	var list []impl.Stamp
	for _, time := range []int{math.MinInt, -1, 0, 1, 7, impl.MaxTime - 1, impl.MaxTime, impl.MaxTime + 1, math.MaxInt} {
		for _, by := range []int{math.MinInt, -1, 0, 1, 2, 3, math.MaxInt} {
			list = append(list, stampOf(time, by))
		}
	}
	return list
}

func valsAround() []int {
	return []int{math.MinInt, -1, 0, 1, 5, impl.MaxNumber - 1, impl.MaxNumber, impl.MaxNumber + 1, math.MaxInt}
}

func regsAround() []impl.Reg {
	var list []impl.Reg
	for _, s := range stampsAround() {
		for _, val := range valsAround() {
			list = append(list, impl.Reg{Val: val, Stamp: s})
		}
	}
	return list
}

// someRegs are few enough to be taken three at a time; many of them have like stamps or like values.
func someRegs() []impl.Reg {
	var list []impl.Reg
	for _, time := range []int{-1, 0, 3, impl.MaxTime, impl.MaxTime + 1} {
		for _, by := range []int{0, 1, 2, 3} {
			list = append(list, regOf(0, time, by), regOf(4, time, by), regOf(-1, time, by))
		}
	}
	return list
}

func stampOrder(a, b impl.Stamp) int {
	return slices.Compare([]int{a.Time, a.By}, []int{b.Time, b.By})
}

func regOrder(a, b impl.Reg) int {
	return slices.Compare([]int{a.Stamp.Time, a.Stamp.By, a.Val}, []int{b.Stamp.Time, b.Stamp.By, b.Val})
}

// orders: the numbers below size in every order.
func orders(size int) [][]int {
	if size == 0 {
		return [][]int{nil}
	}
	var list [][]int
	for _, order := range orders(size - 1) {
		for at := 0; at <= len(order); at++ {
			list = append(list, slices.Insert(slices.Clone(order), at, size-1))
		}
	}
	return list
}

func TestStampOk(t *testing.T) {
	for _, s := range []impl.Stamp{stampOf(0, 0), stampOf(0, 1), stampOf(0, 2), stampOf(7, 1), stampOf(impl.MaxTime-1, 0), stampOf(100000, 0), stampOf(impl.MaxTime, 2)} {
		if !impl.StampOk(s) {
			t.Errorf("StampOk(%v) = false", s)
		}
	}
	for _, s := range []impl.Stamp{stampOf(-1, 0), stampOf(100001, 0), stampOf(impl.MaxTime+1, 2), stampOf(0, -1), stampOf(0, 3), stampOf(impl.MaxTime, -1), stampOf(impl.MaxTime, 3), stampOf(-1, 3),
		stampOf(math.MinInt, 1), stampOf(math.MaxInt, 1), stampOf(1, math.MinInt), stampOf(1, math.MaxInt)} {
		if impl.StampOk(s) {
			t.Errorf("StampOk(%v) = true", s)
		}
	}
	for _, s := range stampsAround() {
		want := slices.Contains([]int{0, 1, 7, 99999, 100000}, s.Time) && slices.Contains([]int{0, 1, 2}, s.By)
		if got := impl.StampOk(s); got != want {
			t.Errorf("StampOk(%v) = %v", s, got)
		}
	}
}

func TestRegOk(t *testing.T) {
	for _, r := range []impl.Reg{{}, regOf(0, impl.MaxTime, 2), regOf(1000000000, 0, 0), regOf(impl.MaxNumber, impl.MaxTime, 2), regOf(5, 7, 1)} {
		if !impl.RegOk(r) {
			t.Errorf("RegOk(%v) = false", r)
		}
	}
	for _, r := range []impl.Reg{regOf(-1, 0, 0), regOf(1000000001, 0, 0), regOf(impl.MaxNumber+1, 7, 1), regOf(5, -1, 1), regOf(5, impl.MaxTime+1, 1), regOf(5, 7, -1), regOf(5, 7, 3)} {
		if impl.RegOk(r) {
			t.Errorf("RegOk(%v) = true", r)
		}
	}
	for _, r := range regsAround() {
		want := impl.StampOk(r.Stamp) && slices.Contains([]int{0, 1, 5, 999999999, 1000000000}, r.Val)
		if got := impl.RegOk(r); got != want {
			t.Errorf("RegOk(%v) = %v", r, got)
		}
	}
}

func TestLater(t *testing.T) {
	for _, c := range []struct{ late, early impl.Stamp }{
		{stampOf(4, 0), stampOf(3, 2)}, {stampOf(4, 2), stampOf(3, 0)}, {stampOf(4, 1), stampOf(3, 1)}, {stampOf(3, 2), stampOf(3, 1)}, {stampOf(3, 1), stampOf(3, 0)},
		{stampOf(1, 0), stampOf(0, 2)}, {stampOf(impl.MaxTime, 0), stampOf(impl.MaxTime-1, 2)}, {stampOf(impl.MaxTime, 0), stampOf(0, 2)}, {stampOf(10, 0), stampOf(9, 2)},
		// Stamps that are not right are told apart by the same numbers.
		{stampOf(0, 0), stampOf(-1, 2)}, {stampOf(impl.MaxTime+1, 0), stampOf(impl.MaxTime, 2)}, {stampOf(3, 0), stampOf(3, -1)}, {stampOf(3, 3), stampOf(3, 2)}, {stampOf(4, -1), stampOf(3, 3)},
		{stampOf(math.MaxInt, 0), stampOf(math.MinInt, 0)}, {stampOf(0, math.MaxInt), stampOf(0, math.MinInt)},
	} {
		if !impl.Later(c.late, c.early) {
			t.Errorf("Later(%v, %v) = false", c.late, c.early)
		}
		if impl.Later(c.early, c.late) {
			t.Errorf("Later(%v, %v) = true", c.early, c.late)
		}
	}
	for _, a := range stampsAround() {
		for _, b := range stampsAround() {
			if got := impl.Later(a, b); got != (stampOrder(a, b) > 0) {
				t.Fatalf("Later(%v, %v) = %v", a, b, got)
			}
		}
	}
}

func TestLaterOfLikeStamps(t *testing.T) {
	for _, s := range stampsAround() {
		if impl.Later(s, s) {
			t.Errorf("Later(%v, %v) = true", s, s)
		}
	}
}

func TestPutReg(t *testing.T) {
	old := regOf(5, 7, 1)
	for _, c := range []struct {
		r    impl.Reg
		n    int
		s    impl.Stamp
		want impl.Reg
	}{
		{old, 6, stampOf(8, 0), regOf(6, 8, 0)}, {old, 6, stampOf(7, 2), regOf(6, 7, 2)}, {old, 4, stampOf(8, 1), regOf(4, 8, 1)}, {old, 5, stampOf(8, 2), regOf(5, 8, 2)},
		{old, 6, stampOf(6, 2), old}, {old, 6, stampOf(7, 0), old}, {old, 6, stampOf(0, 0), old},
		// Its own stamp is not later than itself, however great the number.
		{old, 6, stampOf(7, 1), old}, {old, 4, stampOf(7, 1), old}, {old, impl.MaxNumber, stampOf(7, 1), old},
		{impl.Reg{}, 1, stampOf(0, 0), impl.Reg{}}, {impl.Reg{}, 1, stampOf(0, 1), regOf(1, 0, 1)},
		{old, 0, stampOf(impl.MaxTime, 2), regOf(0, impl.MaxTime, 2)}, {old, impl.MaxNumber, stampOf(impl.MaxTime, 0), regOf(impl.MaxNumber, impl.MaxTime, 0)},
		{regOf(1, impl.MaxTime, 1), 2, stampOf(impl.MaxTime, 2), regOf(2, impl.MaxTime, 2)},
	} {
		if got := impl.PutReg(c.r, c.n, c.s); got != c.want {
			t.Errorf("PutReg(%v, %d, %v) = %v; want %v", c.r, c.n, c.s, got, c.want)
		}
	}
}

func TestPutRegOfWhatIsNotRight(t *testing.T) {
	old := regOf(5, 7, 1)
	for _, s := range []impl.Stamp{stampOf(impl.MaxTime+1, 0), stampOf(math.MaxInt, 1), stampOf(8, -1), stampOf(8, 3), stampOf(7, 3), stampOf(8, math.MaxInt), stampOf(-1, 2), stampOf(math.MinInt, 1)} {
		if got := impl.PutReg(old, 6, s); got != old {
			t.Errorf("PutReg(%v, 6, %v) = %v", old, s, got)
		}
	}
	for _, n := range wrongNumbers() {
		if got := impl.PutReg(old, n, stampOf(8, 1)); got != old {
			t.Errorf("PutReg(%v, %d, {8 1}) = %v", old, n, got)
		}
	}
}

// TestPutRegIntoWhatIsNotRight: only what would come of it must be right; what was there is held against it by its stamp alone.
func TestPutRegIntoWhatIsNotRight(t *testing.T) {
	for _, r := range []impl.Reg{regOf(-1, 7, 1), regOf(impl.MaxNumber+1, 7, 1), regOf(5, -1, 2), regOf(5, 7, -1), regOf(5, 7, 3), regOf(-1, -1, -1), regOf(math.MaxInt, math.MinInt, math.MaxInt)} {
		if got := impl.PutReg(r, 6, stampOf(8, 0)); got != regOf(6, 8, 0) {
			t.Errorf("PutReg(%v, 6, {8 0}) = %v", r, got)
		}
		for _, s := range []impl.Stamp{r.Stamp, stampOf(r.Stamp.Time, r.Stamp.By+4), stampOf(impl.MaxTime+1, 0)} {
			if got := impl.PutReg(r, 6, s); got != r {
				t.Errorf("PutReg(%v, 6, %v) = %v", r, s, got)
			}
		}
	}
	for _, r := range []impl.Reg{regOf(5, impl.MaxTime+1, 0), regOf(5, math.MaxInt, 1), regOf(-1, impl.MaxTime, 3), regOf(-1, 8, 2)} {
		if got := impl.PutReg(r, 6, stampOf(8, 2)); got != r {
			t.Errorf("PutReg(%v, 6, {8 2}) = %v", r, got)
		}
	}
}

func TestPutRegEverywhere(t *testing.T) {
	for _, r := range regsAround() {
		for _, s := range stampsAround() {
			for _, n := range []int{-1, 0, 6, impl.MaxNumber, impl.MaxNumber + 1} {
				want := impl.Reg{Val: n, Stamp: s}
				if stampOrder(s, r.Stamp) <= 0 || !impl.RegOk(want) {
					want = r
				}
				if got := impl.PutReg(r, n, s); got != want {
					t.Fatalf("PutReg(%v, %d, %v) = %v; want %v", r, n, s, got, want)
				}
			}
		}
	}
}

// TestPutRegInEveryOrder: what is put comes to the latest of it, in whatever order it comes, and when some of it comes twice.
func TestPutRegInEveryOrder(t *testing.T) {
	puts := []impl.Reg{regOf(9, 3, 2), regOf(0, 4, 0), regOf(impl.MaxNumber, 4, 1), regOf(2, 6, 0), regOf(1, 2, 1), regOf(7, impl.MaxTime+1, 0)}
	for _, order := range orders(len(puts)) {
		r := regOf(5, 1, 2)
		for _, i := range append(order, order[0]) {
			r = impl.PutReg(r, puts[i].Val, puts[i].Stamp)
		}
		if r != regOf(2, 6, 0) {
			t.Fatalf("put in the order %v: %v", order, r)
		}
	}
}

func TestJoinReg(t *testing.T) {
	for _, c := range []struct{ counts, other impl.Reg }{
		{regOf(1, 4, 0), regOf(9, 3, 2)}, {regOf(9, 4, 0), regOf(1, 3, 2)}, {regOf(1, 4, 2), regOf(9, 3, 0)}, {regOf(1, 3, 2), regOf(9, 3, 1)}, {regOf(0, 3, 1), regOf(impl.MaxNumber, 3, 0)},
		{regOf(0, impl.MaxTime, 0), regOf(impl.MaxNumber, 0, 2)},
		// Like stamps: the greater value.
		{regOf(2, 3, 1), regOf(1, 3, 1)}, {regOf(1, 0, 0), regOf(0, 0, 0)}, {regOf(impl.MaxNumber, impl.MaxTime, 2), regOf(impl.MaxNumber-1, impl.MaxTime, 2)},
		// Registers that are not right are joined by the same numbers.
		{regOf(1, impl.MaxTime+1, 0), regOf(9, impl.MaxTime, 2)}, {regOf(1, 0, 0), regOf(9, -1, 2)}, {regOf(1, 3, 3), regOf(9, 3, 2)}, {regOf(1, 3, 0), regOf(9, 3, -1)},
		{regOf(-1, 4, 1), regOf(5, 3, 1)}, {regOf(0, 3, 1), regOf(-1, 3, 1)}, {regOf(impl.MaxNumber+1, 3, 1), regOf(impl.MaxNumber, 3, 1)}, {regOf(math.MaxInt, 3, 1), regOf(math.MinInt, 3, 1)},
	} {
		if got := impl.JoinReg(c.counts, c.other); got != c.counts {
			t.Errorf("JoinReg(%v, %v) = %v", c.counts, c.other, got)
		}
		if got := impl.JoinReg(c.other, c.counts); got != c.counts {
			t.Errorf("JoinReg(%v, %v) = %v", c.other, c.counts, got)
		}
	}
}

func TestJoinRegEverywhere(t *testing.T) {
	regs := regsAround()
	for _, a := range regs {
		for _, b := range regs {
			want := a
			if regOrder(b, a) > 0 {
				want = b
			}
			if got := impl.JoinReg(a, b); got != want {
				t.Fatalf("JoinReg(%v, %v) = %v; want %v", a, b, got, want)
			}
		}
	}
}

// TestJoinRegInEveryOrder: three come to one, whichever is first, whichever two are joined first, and when one of them comes twice.
func TestJoinRegInEveryOrder(t *testing.T) {
	regs := someRegs()
	for _, a := range regs {
		for _, b := range regs {
			for _, c := range regs {
				three := []impl.Reg{a, b, c}
				want := slices.MaxFunc(three, regOrder)
				for _, order := range orders(3) {
					x, y, z := three[order[0]], three[order[1]], three[order[2]]
					left := impl.JoinReg(impl.JoinReg(x, y), z)
					right := impl.JoinReg(x, impl.JoinReg(y, z))
					twice := impl.JoinReg(impl.JoinReg(left, x), y)
					if left != want || right != want || twice != want {
						t.Fatalf("of %v, %v, %v come %v, %v, %v; want %v", x, y, z, left, right, twice, want)
					}
				}
			}
		}
	}
}

// TestPutAndJoinAgree: whether a later thing is put or joined, the same comes of it.
func TestPutAndJoinAgree(t *testing.T) {
	for _, r := range regsAround() {
		for _, put := range []impl.Reg{regOf(6, 0, 0), regOf(6, 7, 1), regOf(0, impl.MaxTime, 2)} {
			if r.Stamp == put.Stamp {
				continue // only a join looks at the values
			}
			if got, want := impl.PutReg(r, put.Val, put.Stamp), impl.JoinReg(r, put); got != want {
				t.Errorf("put on %v: %v; joined with it: %v", r, got, want)
			}
		}
	}
}
