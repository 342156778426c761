package others_test

import (
	"runtime"
	"sync/atomic"
	"testing"

	"gnomon/others"
)

// mostCalls are far more than it takes, and take far less time than that at which Go itself takes a processor away.
const mostCalls = 20000

// goOn begins goroutines, and tells whether they end while it is called.
func goOn(goroutines int64, body func()) bool {
	var ended atomic.Int64
	for range goroutines {
		go func() {
			body()
			ended.Add(1)
		}()
	}
	for range mostCalls {
		if ended.Load() == goroutines {
			return true
		}
		others.GoOn()
	}
	return false
}

// On one processor, too, all that wait for it come to their end, those that give it away between as well.
func TestOthersGoOn(t *testing.T) {
	defer runtime.GOMAXPROCS(runtime.GOMAXPROCS(1))
	for range 100 {
		if !goOn(20, func() {}) {
			t.Fatal("some have not ended")
		}
		if !goOn(20, runtime.Gosched) {
			t.Fatal("some that give the processor away have not ended")
		}
	}
}

// It ends where there is nobody else, and whoever else calls it.
func TestGoOnEnds(t *testing.T) {
	for range 1000 {
		others.GoOn()
	}
	ended := make(chan bool)
	for range 8 {
		go func() {
			for range 1000 {
				others.GoOn()
			}
			ended <- true
		}()
	}
	for range 8 {
		<-ended
	}
}
