package side

import "sync"

// made is what a worker made of the task of that number.
type made[A any] struct {
	at     int
	answer A
}

// each has every task done by one of the workers, and answers in the order of the tasks.
func each[T, A any](tasks []T, workers int, do func(T) A) []A {
	numbers, back := make(chan int), make(chan made[A])
	var all sync.WaitGroup
	for range min(workers, len(tasks)) {
		all.Add(1)
		go func() {
			defer all.Done()
			for at := range numbers {
				back <- made[A]{at, do(tasks[at])}
			}
		}()
	}
	answers := collect[A](len(tasks), numbers, back)
	close(numbers)
	all.Wait()
	return answers
}

// collect hands out so many numbers, and puts each answer that comes back in its own place, so that it does not matter which comes first.
func collect[A any](n int, numbers chan<- int, back <-chan made[A]) []A {
	answers := make([]A, n)
	next, left := 0, n
	for left > 0 {
		if next == n {
			numbers = nil // never ready: all that is left is to take what comes back
		}
		select {
		case numbers <- next:
			next++
		case m := <-back:
			answers[m.at] = m.answer
			left--
		}
	}
	return answers
}
