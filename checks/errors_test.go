package checks

import (
	"testing"

	"gnomon/api"
)

func TestErrorsHaveTheirNumbers(t *testing.T) {
	for want, e := range []api.Errno{
		api.OK, api.ErrArg, api.ErrRange, api.ErrMany, api.ErrBytes, api.ErrForm, api.ErrAbsent, api.ErrKind, api.ErrState,
		api.ErrName, api.ErrTwice, api.ErrUtf, api.ErrUnlike, api.ErrRoom, api.ErrFull, api.ErrOrder, api.ErrEmpty, api.ErrType,
	} {
		if int(e) != want {
			t.Errorf("error %d has the number %d", want, int(e))
		}
	}
}

func TestLimits(t *testing.T) {
	for _, x := range []struct {
		name      string
		got, want int
	}{
		{"MaxStripes", api.MaxStripes, 16},
		{"MaxPrecision", api.MaxPrecision, 14},
		{"MaxCells", api.MaxCells, 1048576},
		{"MaxInstruments", api.MaxInstruments, 256},
		{"MaxLabels", api.MaxLabels, 16},
		{"MaxName", api.MaxName, 64},
		{"MaxText", api.MaxText, 1024},
		{"MaxThreads", api.MaxThreads, 8},
		{"MaxCalls", api.MaxCalls, 256},
		{"MaxPicks", api.MaxPicks, 65536},
		{"MaxSlots", api.MaxSlots, 16},
		{"MaxRing", api.MaxRing, 256},
		{"MaxNodes", api.MaxNodes, 512},
		{"MaxRule", api.MaxRule, 65536},
		{"MaxRules", api.MaxRules, 64},
		{"MaxPage", api.MaxPage, 4194304},
		{"MaxLine", api.MaxLine, 65536},
	} {
		if x.got != x.want {
			t.Errorf("%s: %d, want %d", x.name, x.got, x.want)
		}
	}
}
