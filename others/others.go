// Package others is for whoever waits for another goroutine without a gate: it lets the others go on.
package others

import "sync"

// GoOn lets other goroutines go on. Two are begun, as the last one that was begun may come next, ahead of all that wait: the other one comes behind those.
func GoOn() {
	var wait sync.WaitGroup
	wait.Add(2)
	go wait.Done()
	go wait.Done()
	wait.Wait()
}
