package farm

import (
	"sync"

	"testimony/api"
)

const (
	maxPlans   = 50
	maxWorkers = 16
)

// Many tries plans, each with its tape, by workers; the reports in their order, or the first one's error.
func Many(plans []Plan, tapes [][]int, workers int) ([]Report, error) {
	if len(tapes) != len(plans) || len(plans) > maxPlans || workers < 1 || workers > maxWorkers {
		return nil, api.ErrLimit
	}
	reports := make([]Report, len(plans))
	// None stops at an error: which one is told must not hang on who was first.
	for i, o := range tryAll(plans, tapes, workers) {
		if o.err != nil {
			return nil, o.err
		}
		reports[i] = o.report
	}
	return reports, nil
}

// job is a plan to try, and its number.
type job struct {
	Plan
	tape   []int
	number int
}

// outcome is what Run tells of a plan.
type outcome struct {
	report Report
	err    error
}

// tryAll is what comes of each plan, by so many workers.
func tryAll(plans []Plan, tapes [][]int, workers int) []outcome {
	outcomes := make([]outcome, len(plans))
	// Each job is in a worker's hands when it is sent (there is no room in the channel), so that none is left when there are no more.
	jobs, noMore := make(chan job), make(chan struct{})
	var all sync.WaitGroup
	for range workers {
		all.Add(1)
		go func() {
			defer all.Done()
			work(jobs, noMore, outcomes)
		}()
	}
	for i, p := range plans {
		jobs <- job{Plan: p, tape: tapes[i], number: i}
	}
	close(noMore)
	all.Wait()
	return outcomes
}

// work tries one plan behind the other, until there are no more.
func work(jobs <-chan job, noMore <-chan struct{}, outcomes []outcome) {
	for {
		select {
		case j := <-jobs:
			r, err := Run(j.Plan, j.tape)
			outcomes[j.number] = outcome{r, err}
		case <-noMore:
			return
		}
	}
}
