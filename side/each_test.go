package side

import (
	"runtime"
	"slices"
	"strconv"
	"sync"
	"testing"
	"time"

	"pewholder/api"
)

func TestEachAnswersInTheOrderOfTheTasks(t *testing.T) {
	for _, n := range []int{0, 1, 2, 15, 16, 17, 100, 1000} {
		var tasks []int
		var want []string
		for i := range n {
			tasks = append(tasks, n-i)
			want = append(want, strconv.Itoa(n-i))
		}
		for workers := 1; workers <= api.Workers; workers++ {
			if got := each(tasks, workers, strconv.Itoa); !slices.Equal(got, want) {
				t.Errorf("%d tasks by %d: %q", n, workers, got)
			}
		}
	}
}

// Each task but the last waits until the one behind it is done, so that the last one is done first.
func TestEachWhenTheLastIsDoneFirst(t *testing.T) {
	var tasks []int
	var done []chan int
	for i := range api.Workers {
		tasks = append(tasks, i)
		done = append(done, make(chan int))
	}
	got := each(tasks, api.Workers, func(i int) int {
		defer close(done[i])
		if i+1 < len(done) && !comes(done[i+1]) {
			t.Errorf("task %d: those behind it are not done beside it", i)
		}
		return -i
	})
	for i, n := range got {
		if n != -i {
			t.Errorf("task %d: %d", i, n)
		}
	}
}

// comes tells whether a channel is closed before long.
func comes(c chan int) bool {
	select {
	case <-c:
		return true
	case <-time.After(20 * time.Second):
		return false
	}
}

// crowd counts who comes, who is there, and how many were there at once; all wait until so many have met.
type crowd struct {
	sync.Mutex
	wait, come, here, most int
	met                    chan int
}

func (c *crowd) enter() bool {
	c.Lock()
	c.come, c.here = c.come+1, c.here+1
	c.most = max(c.most, c.here)
	if c.come == c.wait {
		close(c.met)
	}
	c.Unlock()
	defer time.Sleep(time.Millisecond) // in which one too many would come
	return comes(c.met)
}

func (c *crowd) leave() {
	c.Lock()
	defer c.Unlock()
	c.here--
}

// So many tasks as there are workers are done at once, and never more.
func TestEachWorksSideBySide(t *testing.T) {
	for workers := 1; workers <= api.Workers; workers++ {
		for _, n := range []int{workers, workers + 1, 3 * workers} {
			c := crowd{wait: workers, met: make(chan int)}
			met := each(make([]int, n), workers, func(int) bool {
				defer c.leave()
				return c.enter()
			})
			if slices.Contains(met, false) || c.come != n || c.most != workers || c.here != 0 {
				t.Errorf("%d tasks by %d: %d came, %d at once", n, workers, c.come, c.most)
			}
		}
	}
}

func TestEachLeavesNobodyBehind(t *testing.T) {
	before := runtime.NumGoroutine()
	for n := range 40 {
		each(make([]int, n), 1+n%api.Workers, func(int) int { return 0 })
	}
	for range 2000 {
		if runtime.NumGoroutine() <= before {
			return
		}
		time.Sleep(time.Millisecond)
	}
	t.Errorf("%d are there, where %d were", runtime.NumGoroutine(), before)
}
