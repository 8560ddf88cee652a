package tests

import (
	"testing"

	"loop.example/g00521/impl"
)

const maxSteps = 100

var jumpKinds = []int64{impl.JpStart, impl.JpEnd, impl.JpNone, impl.JpBoth}

// someSteps are right ones of every Jump, with the least and the greatest Count among them.
func someSteps() []impl.Steps {
	list := []impl.Steps{}
	for _, jump := range jumpKinds {
		for _, count := range []int64{1, 2, 3, 4, 7, 32, 99, maxSteps} {
			if count > 1 || jump != impl.JpNone {
				list = append(list, impl.Steps{Count: count, Jump: jump})
			}
		}
	}
	return list
}

// notSteps pass one limit by one, or are far out in one place, or in both.
func notSteps() []impl.Steps {
	list := []impl.Steps{{}, {Count: 1, Jump: impl.JpNone}, {Count: 4, Jump: 0}, {Count: 4, Jump: 5}, {Count: 4, Jump: -1},
		{Count: 1, Jump: 5}, {Count: maxSteps, Jump: 0}}
	for _, jump := range jumpKinds {
		for _, count := range append([]int64{-1, 0, maxSteps + 1}, outliers...) {
			list = append(list, impl.Steps{Count: count, Jump: jump})
		}
	}
	for _, far := range outliers {
		list = append(list, impl.Steps{Count: 4, Jump: far}, impl.Steps{Count: far, Jump: far})
	}
	return list
}

// jumpsWanted wants right steps.
func jumpsWanted(s impl.Steps) int64 {
	return s.Count + map[int64]int64{impl.JpNone: -1, impl.JpBoth: 1}[s.Jump]
}

// jumpsDone counts the jumps up to p one by one, instead of dividing.
func jumpsDone(s impl.Steps, p int64) int64 {
	done := int64(0)
	for k := int64(1); k <= s.Count && k*impl.One <= p*s.Count; k++ {
		done++
	}
	if s.Jump == impl.JpStart || s.Jump == impl.JpBoth {
		done++
	}
	return min(done, jumpsWanted(s))
}

func wantStepsOk(t *testing.T, s impl.Steps, want bool) {
	t.Helper()
	if got := impl.StepsOk(s); got != want {
		t.Errorf("StepsOk(%v) = %t", s, got)
	}
}

func wantJumps(t *testing.T, s impl.Steps, want int64) {
	t.Helper()
	if got := impl.JumpsOf(s); got != want {
		t.Errorf("JumpsOf(%v) = %d, want %d", s, got, want)
	}
}

func wantSteps(t *testing.T, count, jump, p, want int64) {
	t.Helper()
	s := impl.Steps{Count: count, Jump: jump}
	if got := impl.StepsAt(s, p); got != want {
		t.Errorf("StepsAt(%v, %d) = %d, want %d", s, p, got, want)
	}
}

func TestNumbersOfJumps(t *testing.T) {
	if impl.JpStart != 1 || impl.JpEnd != 2 || impl.JpNone != 3 || impl.JpBoth != 4 {
		t.Fatal(jumpKinds)
	}
}

func TestStepsOkAtItsLimits(t *testing.T) {
	for jump := int64(-2); jump <= 7; jump++ {
		for count := int64(-2); count <= maxSteps+2; count++ {
			least := int64(1)
			if jump == impl.JpNone {
				least = 2
			}
			want := jump >= 1 && jump <= 4 && count >= least && count <= 100
			wantStepsOk(t, impl.Steps{Count: count, Jump: jump}, want)
		}
	}
	for _, s := range someSteps() {
		wantStepsOk(t, s, true)
	}
	for _, s := range notSteps() {
		wantStepsOk(t, s, false)
	}
}

func TestJumpsOf(t *testing.T) {
	wantJumps(t, impl.Steps{Count: 1, Jump: impl.JpStart}, 1)
	wantJumps(t, impl.Steps{Count: 1, Jump: impl.JpEnd}, 1)
	wantJumps(t, impl.Steps{Count: 2, Jump: impl.JpNone}, 1)
	wantJumps(t, impl.Steps{Count: 1, Jump: impl.JpBoth}, 2)
	wantJumps(t, impl.Steps{Count: 100, Jump: impl.JpStart}, 100)
	wantJumps(t, impl.Steps{Count: 100, Jump: impl.JpEnd}, 100)
	wantJumps(t, impl.Steps{Count: 100, Jump: impl.JpNone}, 99)
	wantJumps(t, impl.Steps{Count: 100, Jump: impl.JpBoth}, 101)
	for _, s := range someSteps() {
		wantJumps(t, s, jumpsWanted(s))
	}
}

func TestJumpsOfWrongSteps(t *testing.T) {
	for _, s := range notSteps() {
		wantJumps(t, s, 0)
	}
}

func TestStepsGoOnAndOnToOne(t *testing.T) {
	for _, s := range someSteps() {
		last, rises := impl.StepsAt(s, 0), int64(0)
		for p := int64(1); p <= impl.One; p++ {
			at := impl.StepsAt(s, p)
			if at < last || !impl.PartOk(at) {
				t.Fatalf("StepsAt(%v, %d) = %d behind %d", s, p, at, last)
			}
			if at > last {
				rises++
			}
			last = at
		}
		if last != impl.One {
			t.Errorf("StepsAt(%v, One) = %d", s, last)
		}
		// The jumps that are not on the way were done at 0 already.
		if ahead := jumpsDone(s, 0); rises != jumpsWanted(s)-ahead {
			t.Errorf("%v rises %d times", s, rises)
		}
	}
}

func TestStepsOfEveryCountComeToOne(t *testing.T) {
	for _, jump := range jumpKinds {
		for count := int64(2); count <= maxSteps; count++ {
			wantSteps(t, count, jump, impl.One, impl.One)
		}
	}
	wantSteps(t, 1, impl.JpStart, impl.One, impl.One)
	wantSteps(t, 1, impl.JpEnd, impl.One, impl.One)
	wantSteps(t, 1, impl.JpBoth, impl.One, impl.One)
}

func TestStepsAtZero(t *testing.T) {
	for _, s := range someSteps() {
		stays := s.Jump == impl.JpEnd || s.Jump == impl.JpNone
		if got := impl.StepsAt(s, 0); (got == 0) != stays {
			t.Errorf("StepsAt(%v, 0) = %d", s, got)
		}
	}
	wantSteps(t, 1, impl.JpStart, 0, impl.One)
	wantSteps(t, 1, impl.JpBoth, 0, 32768)
	wantSteps(t, 100, impl.JpStart, 0, 655)
	wantSteps(t, 100, impl.JpBoth, 0, 648)
}

func TestStepsJumpJustWhereTheyDo(t *testing.T) {
	wantSteps(t, 4, impl.JpEnd, 16383, 0)
	wantSteps(t, 4, impl.JpEnd, 16384, 16384)
	wantSteps(t, 4, impl.JpStart, 16383, 16384)
	wantSteps(t, 4, impl.JpStart, 16384, 32768)
	wantSteps(t, 4, impl.JpStart, 49152, impl.One)
	wantSteps(t, 4, impl.JpNone, 16383, 0)
	wantSteps(t, 4, impl.JpNone, 16384, 21845)
	wantSteps(t, 4, impl.JpNone, 49151, 43690)
	wantSteps(t, 4, impl.JpNone, 49152, impl.One)
	wantSteps(t, 4, impl.JpBoth, 16383, 13107)
	wantSteps(t, 4, impl.JpBoth, 16384, 26214)
	wantSteps(t, 4, impl.JpBoth, 65535, 52428)
	wantSteps(t, 4, impl.JpBoth, 65536, impl.One)
	wantSteps(t, 1, impl.JpEnd, 65535, 0)
	wantSteps(t, 1, impl.JpBoth, 65535, 32768)
	wantSteps(t, 2, impl.JpNone, 32767, 0)
	wantSteps(t, 2, impl.JpNone, 32768, impl.One)
}

func TestStepsDivideDown(t *testing.T) {
	wantSteps(t, 3, impl.JpEnd, 21845, 0)
	wantSteps(t, 3, impl.JpEnd, 21846, 21845)
	wantSteps(t, 3, impl.JpEnd, 43690, 21845)
	wantSteps(t, 3, impl.JpEnd, 43691, 43690)
	wantSteps(t, 7, impl.JpStart, 9362, 9362)
	wantSteps(t, 7, impl.JpStart, 9363, 18724)
	wantSteps(t, 100, impl.JpEnd, 655, 0)
	wantSteps(t, 100, impl.JpEnd, 656, 655)
	wantSteps(t, 100, impl.JpEnd, 65535, 64880)
	wantSteps(t, 100, impl.JpNone, 65535, impl.One)
	wantSteps(t, 100, impl.JpNone, 64880, 64874)
}

func TestStepsAreAsCounted(t *testing.T) {
	for _, s := range someSteps() {
		for p := int64(0); p <= impl.One; p += 13 {
			wantSteps(t, s.Count, s.Jump, p, timesBy(impl.One, jumpsDone(s, p), jumpsWanted(s)))
		}
		for k := int64(1); k <= s.Count; k++ {
			for p := k*impl.One/s.Count - 1; p <= min(k*impl.One/s.Count+1, impl.One); p++ {
				wantSteps(t, s.Count, s.Jump, p, timesBy(impl.One, jumpsDone(s, p), jumpsWanted(s)))
			}
		}
	}
}

func TestStepsAtOutOfRange(t *testing.T) {
	for _, s := range someSteps() {
		for _, p := range append([]int64{-1, impl.One + 1}, outliers...) {
			wantSteps(t, s.Count, s.Jump, p, 0)
		}
	}
	for _, s := range notSteps() {
		for _, p := range append([]int64{-1, 0, 1, 32768, impl.One, impl.One + 1}, outliers...) {
			wantSteps(t, s.Count, s.Jump, p, 0)
		}
	}
}
