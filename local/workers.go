package local

import (
	"sync"

	"testimony/api"
	"testimony/linear"
)

// judgeAll is the verdict of each key's ops alone, by so many workers. None stops ahead of the last key, so that what is answered doesn't hang on who was first.
func judgeAll(object int, parts [][]api.Op, budget, workers int) []linear.Verdict {
	verdicts := make([]linear.Verdict, len(parts))
	keys := make(chan int)
	var all sync.WaitGroup
	for range workers {
		all.Add(1)
		go func() {
			defer all.Done()
			for key := range keys {
				verdicts[key] = judge(object, parts[key], budget)
			}
		}()
	}
	for key := range parts {
		keys <- key
	}
	close(keys)
	all.Wait()
	return verdicts
}

// judge drops the error, for there is none: what may be of all ops may be of each key's.
func judge(object int, part []api.Op, budget int) linear.Verdict {
	v, _ := linear.Check(object, part, budget)
	return v
}
