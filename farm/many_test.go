package farm_test

import (
	"fmt"
	"math"
	"reflect"
	"runtime"
	"slices"
	"testing"
	"time"

	"testimony/api"
	"testimony/farm"
	"testimony/store"
)

// die: numbers that look drawn, the same each time.
type die uint64

func (d *die) n(most int) int {
	*d = *d*6364136223846793005 + 1442695040888963407
	return int(uint64(*d>>33) % uint64(most))
}

// drawnPlan is one that may be tried.
func drawnPlan(d *die) farm.Plan {
	nodes := 1 + d.n(5)
	gens := []string{
		"limit 12 mix (read 0, write 0 1 5, read 1)", "read 0", "then (limit 3 write 0 1 9, mix (read 0, write 0 10 12))",
		"limit 9 mix (write 0 1 3, write 1 4 6, read 0, read 1)", "limit 0 read 0", "mix (limit 2 read 0, limit 3 write 0 -5 5)",
	}
	return farm.Plan{
		Setup:  store.Setup{Nodes: nodes, Clients: 1 + d.n(4), Ask: 1 + d.n(nodes), Tell: 1 + d.n(nodes), Back: d.n(2) == 0},
		Title:  fmt.Sprint("plan ", d.n(1000)),
		Gen:    gens[d.n(len(gens))],
		Budget: []int{0, 5, 300, 3000}[d.n(4)],
	}
}

// loosePlan is one whose quorums don't meet, and whose clients have much to do.
func loosePlan(d *die) farm.Plan {
	return farm.Plan{
		Setup:  store.Setup{Nodes: 3 + d.n(3), Clients: 2 + d.n(3), Ask: 1, Tell: 1, Back: d.n(2) == 0},
		Gen:    "limit 14 mix (read 0, write 0 1 900)",
		Budget: 3000,
	}
}

func drawnTape(d *die, most int) []int {
	var tape []int
	for range d.n(most) {
		tape = append(tape, d.n(5000)-1000)
	}
	return tape
}

// 20.3: each one's Run, in order, whatever the number of workers.
func TestMany(t *testing.T) {
	d := die(31)
	for _, count := range []int{0, 1, 2, 3, 15, 16, 17, 49, 50} {
		var plans []farm.Plan
		var tapes [][]int
		var want []farm.Report
		for range count {
			plans, tapes = append(plans, drawnPlan(&d)), append(tapes, drawnTape(&d, 200))
			r, err := farm.Run(plans[len(plans)-1], tapes[len(tapes)-1])
			if err != nil {
				t.Fatal(err)
			}
			want = append(want, r)
		}
		for workers := 1; workers <= 16; workers++ {
			got, err := farm.Many(plans, tapes, workers)
			if err != nil || len(got) != count || fmt.Sprint(got) != fmt.Sprint(want) {
				t.Fatalf("%d plans, %d workers: %v, %v, not %v", count, workers, got, err, want)
			}
		}
	}
}

// 20.3: how many plans, tapes and workers there may be, told ahead of what is wrong with a plan.
func TestManyLimits(t *testing.T) {
	good := farm.Plan{Setup: one, Gen: "limit 1 read 0", Budget: 10}
	for _, c := range []struct{ plans, tapes, workers int }{
		{1, 0, 1}, {0, 1, 1}, {2, 3, 1}, {51, 51, 1}, {51, 50, 1}, {50, 51, 1}, {60, 60, 4},
		{1, 1, 0}, {1, 1, -1}, {1, 1, 17}, {0, 0, 0}, {0, 0, 17}, {1, 1, math.MinInt}, {1, 1, math.MaxInt},
	} {
		for _, p := range []farm.Plan{good, {}} {
			l, err := farm.Many(slices.Repeat([]farm.Plan{p}, c.plans), make([][]int, c.tapes), c.workers)
			if len(l) != 0 || err != error(api.ErrLimit) {
				t.Errorf("%v: %d reports, %v", c, len(l), err)
			}
		}
	}
	for _, workers := range []int{1, 16} {
		if l, err := farm.Many(nil, nil, workers); len(l) != 0 || err != nil {
			t.Errorf("none: %v, %v", l, err)
		}
	}
}

// 20.3: the error of the first one that has one, whoever comes to it first.
func TestManyErrors(t *testing.T) {
	good := farm.Plan{Setup: one, Gen: "limit 1 read 0", Budget: 10}
	slow := farm.Plan{Setup: store.Setup{Nodes: 3, Clients: 8, Ask: 1, Tell: 1}, Gen: "mix (read 0, write 0 1 5)", Budget: 20_000}
	form, budget, setup := good, good, good
	form.Gen = "limit 1 reed 0"
	budget.Budget = -1
	setup.Ask = 2
	for _, c := range []struct {
		plans []farm.Plan
		want  api.Errno
		place int
	}{
		{[]farm.Plan{form}, api.ErrForm, 8},
		{[]farm.Plan{good, form}, api.ErrForm, 8},
		{[]farm.Plan{good, budget, form, setup}, api.ErrLimit, nowhere},
		{[]farm.Plan{good, setup, budget, good}, api.ErrRange, nowhere},
		{[]farm.Plan{slow, slow, form, budget, setup}, api.ErrForm, 8},
		{slices.Concat(slices.Repeat([]farm.Plan{good}, 48), []farm.Plan{setup, form}), api.ErrRange, nowhere},
	} {
		for _, workers := range []int{1, 2, 3, 16} {
			l, err := farm.Many(c.plans, make([][]int, len(c.plans)), workers)
			if len(l) != 0 || !isFault(err, c.want, c.place) {
				t.Errorf("%d plans, %d workers: %v, %#v, not %v at %d", len(c.plans), workers, l, err, c.want, c.place)
			}
		}
	}
	// A tape that is too long is its own plan's error.
	if _, err := farm.Many([]farm.Plan{good, form}, [][]int{make([]int, 2001), nil}, 2); !isFault(err, api.ErrLimit, nowhere) {
		t.Error(err)
	}
}

// P4: plans and tapes stay as they are; reports share no memory, of one plan that stands twice, too.
func TestManyMemory(t *testing.T) {
	d := die(32)
	p, tape := drawnPlan(&d), drawnTape(&d, 100)
	p.Gen = "limit 9 mix (read 0, write 0 1 5)"
	plans, tapes := []farm.Plan{p, p, p, {}}, [][]int{tape, tape, tape, {5}}
	wasPlans, wasTape := slices.Clone(plans), slices.Clone(tape)
	l, err := farm.Many(plans[:3], tapes[:3], 3)
	if err != nil || !slices.Equal(plans, wasPlans) || !slices.Equal(tape, wasTape) || !slices.Equal(tapes[3], []int{5}) {
		t.Fatal(err, plans, tapes)
	}
	want := fmt.Sprint(l[1])
	for i := range l[0].Events {
		l[0].Events[i].A = 77
	}
	_ = append(l[0].Events, l[0].Events...)
	for i := range l[2].Order {
		l[2].Order[i] = 77
	}
	if fmt.Sprint(l[1]) != want {
		t.Error("reports share memory")
	}
	if again, err := farm.Many(plans[:3], tapes[:3], 1); err != nil || fmt.Sprint(again[0]) != want || !reflect.DeepEqual(again[0], again[1]) {
		t.Error(again, err, want)
	}
}

// All workers have ended when Many answers, whatever it answers.
func TestManyWorkersEnd(t *testing.T) {
	was := runtime.NumGoroutine()
	good := farm.Plan{Setup: one, Gen: "limit 1 read 0", Budget: 10}
	for range 50 {
		farm.Many(nil, nil, 16)
		farm.Many([]farm.Plan{good}, make([][]int, 1), 16)
		farm.Many([]farm.Plan{good, {}, good}, make([][]int, 3), 2)
		farm.Many(make([]farm.Plan, 50), make([][]int, 50), 16)
	}
	for range 5000 {
		// A goroutine counts for a moment longer than its last statement.
		if runtime.NumGoroutine() <= was {
			return
		}
		time.Sleep(time.Millisecond)
	}
	t.Errorf("%d goroutines, %d ahead", runtime.NumGoroutine(), was)
}
