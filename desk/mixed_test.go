package desk_test

import (
	"strings"
	"testing"

	"testimony/api"
)

// 21.1: steps tells how many there are, those so far, too.
func TestSteps(t *testing.T) {
	askAll(t,
		"steps", "0",
		"steps r0x0", "1",
		"steps w1x7 r7x3 a7", "4",
		"steps", "4",
		"  steps   c0  c1 ", "6",
		"steps c2 a3", "8",
	)
}

// 21.1: ErrForm: what is no step.
func TestStepsForm(t *testing.T) {
	askEach(t, []string{"steps r0x0"}, "error 3",
		"steps r", "steps w", "steps c", "steps a", "steps x", "steps 0", "steps 0x0", "steps r0", "steps w0", "steps r0x", "steps rx0", "steps rx", "steps wx",
		"steps c0x0", "steps a0x0", "steps c0x", "steps ax0", "steps cx", "steps q0x0", "steps R0x0", "steps C0", "steps b0", "steps rr0x0", "steps r0xx0", "steps r0x0x", "steps r0x1x2", "steps r0X0", "steps r0,0", "steps r0x0,", "steps r0x0;c0",
		"steps r00x0", "steps r0x00", "steps r01x0", "steps r0x01", "steps c00", "steps a01", "steps r+1x0", "steps r1x+1", "steps c+1", "steps r-0x0", "steps r0x-0", "steps c-0", "steps r--1x0", "steps c1.", "steps r1_0x0", "steps cx0",
		"steps r9223372036854775808x0", "steps r0x9223372036854775808", "steps c-9223372036854775809", "steps r٠x0", "steps é", "steps \xff", "steps r0\xffx0",
	)
}

// 21.1: what Check says of all steps: those so far, and these.
func TestStepsCheck(t *testing.T) {
	ahead := []string{"steps r0x0 c0 a1"}
	askEach(t, ahead, "error 2", "steps r8x0", "steps r2x8", "steps w-1x0", "steps w2x-1", "steps c8", "steps a-1", "steps r9223372036854775807x0", "steps c-9223372036854775808", "steps r2x0 r2x0 r2x9", "steps c8 c0")
	askEach(t, ahead, "error 6", "steps r0x0", "steps w0x1", "steps c0", "steps a0", "steps c1", "steps w1x1", "steps c2 c2", "steps r2x0 c2 w2x0", "steps c0 c8")
	askEach(t, ahead, "4", "steps c2")
	// Each is read ahead of what Check says.
	askEach(t, ahead, "error 3", "steps r8x0 x", "steps c0 x", "steps x c0", "steps c0 r0")
}

// 21.1: where a step is wrong nothing is changed, not by those ahead of it either.
func TestStepsUnchanged(t *testing.T) {
	for _, line := range []string{"steps w1x0 c1 x", "steps w1x0 c1 r8x0", "steps w1x0 c1 c1", "steps w1x0 c1 c0", "steps w1x0 c1" + strings.Repeat(" r2x0", api.MaxSteps-3)} {
		want := "error 3"
		switch {
		case strings.HasSuffix(line, "r8x0"):
			want = "error 2"
		case strings.HasSuffix(line, "c1 c1"), strings.HasSuffix(line, "c0"):
			want = "error 6"
		case strings.HasSuffix(line, "r2x0"):
			want = "error 4"
		}
		askAll(t, "steps w0x0 c0", "2", line, want, "clashes", "order 0", "steps", "2", "steps r1x0 c1", "4", "clashes", "order 0 1")
	}
}

// 21.1: as many steps as may be.
func TestStepsLimit(t *testing.T) {
	many := "steps" + strings.Repeat(" r0x0", api.MaxSteps)
	ask(t, many+"\nsteps", "60\n60")
	askEach(t, nil, "error 4", many+" r0x0", many+" r8x0", many+" c0 c0")
	askEach(t, []string{many}, "error 4", "steps r0x0", "steps r8x0", many)
	askEach(t, []string{many}, "error 3", "steps r", many+" r")
	askEach(t, []string{many}, "60", "steps")
	askEach(t, []string{many, "clear"}, "60", many)
}

// 21.1: clashes tells an order, or a way round.
func TestClashes(t *testing.T) {
	askEach(t, []string{"steps r0x0 w1x0 c1 w0x0 c0"}, "round 0 1", "clashes") // the document's own
	askEach(t, []string{"steps r0x0 w1x0 c1 w0x0 a0"}, "order 1", "clashes")
	askEach(t, []string{"steps w7x0 c7 w0x0 c0 w3x5"}, "order 7 0", "clashes")
	askEach(t, []string{"steps w2x0 w1x0 w1x1 w0x1 w0x2 w2x2 c0 c1 c2"}, "round 0 2 1", "clashes")
	askEach(t, []string{"steps r0x0"}, "order", "clashes")
	askEach(t, []string{"steps r0x0 w1x0 c1", "steps w0x0 c0"}, "round 0 1", "clashes")
}

// 21.1: sees tells an order; else what Sees says.
func TestSees(t *testing.T) {
	askEach(t, []string{"steps r0x0 w1x0 c1 w0x0 c0"}, "error 8", "sees")
	askEach(t, []string{"steps w0x0 w1x0 w1x1 w0x1 w2x0 w2x1 c0 c1 c2"}, "order 0 1 2", "sees")
	askEach(t, []string{"steps w0x0 w1x0 w1x1 w0x1 w2x0 w2x1 c0 c1 c2"}, "round 0 1", "clashes")
	askEach(t, []string{"steps w1x0 r0x0 c0 c1"}, "order 1 0", "sees")
	askEach(t, []string{"steps c0 c1 c2 c3 c4 c5"}, "order 0 1 2 3 4 5", "sees")
	askEach(t, []string{"steps c0 c1 c2 c3 c4 c5 c6"}, "error 4", "sees")
}

// 21.1: careful tells what is true.
func TestCareful(t *testing.T) {
	askEach(t, []string{"steps w0x0 c0 r1x0 c1"}, "careful recover clean strict", "careful")
	askEach(t, []string{"steps w0x0 w1x0 c0 c1"}, "careful recover clean", "careful")
	askEach(t, []string{"steps w0x0 r1x0 c0 c1"}, "careful recover", "careful")
	askEach(t, []string{"steps w0x0 r1x0 c1 c0"}, "careful", "careful")
}

// 21.1: events and steps know nothing of each other.
func TestEventsBesideSteps(t *testing.T) {
	askAll(t,
		"see 0 invoke write 0 5 0 0", "1", "steps w1x0 c1", "2", "see 0 ok write 0 5 0 0", "2", "steps", "2",
		"ops", "1 0", "clashes", "order 1", "check register", "valid 0", "zones", "fits",
	)
}
