package alarm_test

import (
	"math/rand"
	"strings"
	"testing"

	"gnomon/alarm"
	"gnomon/api"
)

// P23.5: when it rings. Behind every step stepBoth holds the states, and since when they are, against what the promise says of all steps.

// TestRingsBehindAllShortRows: every row of holding and not, with short whiles.
func TestRingsBehindAllShortRows(t *testing.T) {
	const length = 7
	for _, gaps := range [][]int64{{1}, {2, 1}, {1, 3, 2}} {
		for row := range 1 << length {
			// All whiles at once: each has an alarm of its own, whose rules come to the same.
			var specs []alarm.Spec
			for n := range int64(25) {
				specs = append(specs, spec(int(n), n%5, n/5))
			}
			b, m := made(t, specs...), modelOf(specs)
			at := int64(-5)
			for i := range length {
				says := "n"
				if row>>i&1 == 1 {
					says = "y"
				}
				stepBoth(t, b, m, at, strings.Repeat(says, len(specs)))
				at += gaps[i%len(gaps)]
			}
		}
	}
}

// TestRingsBehindLongRows: drawn rows, near each other and as far apart as times can be.
func TestRingsBehindLongRows(t *testing.T) {
	r := rand.New(rand.NewSource(235))
	ways := map[[2]int]int{}
	for range 400 {
		times := someTimes(r, 20+r.Intn(130))
		specs := make([]alarm.Spec, 3)
		for i := range specs {
			specs[i] = spec(i, someWhile(r, times), someWhile(r, times))
		}
		b, m := made(t, specs...), modelOf(specs)
		says := ""
		for _, at := range times {
			says = someSays(r, len(specs), says)
			for _, c := range stepBoth(t, b, m, at, says) {
				ways[[2]int{c.From, c.To}]++
			}
		}
	}
	for _, z := range [][2]int{
		{alarm.Idle, alarm.Waiting}, {alarm.Idle, alarm.Ringing}, {alarm.Waiting, alarm.Idle}, {alarm.Waiting, alarm.Ringing},
		{alarm.Ringing, alarm.Fading}, {alarm.Ringing, alarm.Idle}, {alarm.Fading, alarm.Ringing}, {alarm.Fading, alarm.Idle},
	} {
		if ways[z] < 300 {
			t.Errorf("from %d to %d: %d times alone", z[0], z[1], ways[z])
		}
	}
	if len(ways) != 8 {
		t.Errorf("ways: %v", ways)
	}
}

// TestRingsBehindOneVeryLongRow: what was long ago counts as what was just now.
func TestRingsBehindOneVeryLongRow(t *testing.T) {
	b := made(t, spec(0, 1000, 1000))
	step := func(now int64, says string, want ...alarm.Change) { wantsStep(t, b, now, says, want...) }
	step(1, "y", turn(alarm.Idle, alarm.Waiting))
	for at := int64(2); at <= 1000; at++ {
		step(at, "y")
	}
	step(1001, "y", turn(alarm.Waiting, alarm.Ringing))
	for at := int64(1002); at < 3000; at += 2 {
		step(at, "n", turn(alarm.Ringing, alarm.Fading))
		step(at+1, "y", turn(alarm.Fading, alarm.Ringing))
	}
	step(3000, "n", turn(alarm.Ringing, alarm.Fading))
	for at := int64(3001); at < 4000; at++ {
		step(at, []string{"n", "-", "k", ""}[at%4])
	}
	wantsStatus(t, b, alarm.Status{Name: "alarm0", State: alarm.Fading, Since: 3000, E: api.ErrEmpty})
	step(4000, "n", turn(alarm.Fading, alarm.Idle))
	// One step at which it doesn't hold, and the while begins anew.
	for at := int64(4001); at < 6000; at += 1000 {
		step(at, "y", turn(alarm.Idle, alarm.Waiting))
		step(at+998, "y")
		step(at+999, "n", turn(alarm.Waiting, alarm.Idle))
	}
	wantsStatus(t, b, stand(alarm.Idle, 6000))
}
