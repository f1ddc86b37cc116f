package line_test

import (
	"testing"

	"mailroom/api"
)

// The numbers of the sections Limits and Errors, as the document writes them.

func TestErrors(t *testing.T) {
	for e, n := range map[api.Errno]int{
		api.OK: 0, api.ErrArg: 1, api.ErrNil: 2, api.ErrForm: 4, api.ErrNone: 5, api.ErrTwice: 6, api.ErrState: 7,
		api.ErrShort: 8, api.ErrLong: 10, api.ErrTooLarge: 40, api.ErrFull: 41, api.ErrOff: 42,
	} {
		if int(e) != n {
			t.Errorf("error %d; want %d", int(e), n)
		}
	}
	if s := api.ErrState.Error(); s != "mailroom: error 7" {
		t.Errorf("Error: %q", s)
	}
}

func TestLimits(t *testing.T) {
	for _, x := range []struct {
		name      string
		got, want int
	}{
		{"MaxQueue", api.MaxQueue, 8}, {"MaxRcpts", api.MaxRcpts, 4}, {"MaxText", api.MaxText, 1024},
		{"MaxNotice", api.MaxNotice, 4096}, {"MaxWord", api.MaxWord, 128}, {"MaxLine", api.MaxLine, 512},
		{"MaxLines", api.MaxLines, 32}, {"MaxHosts", api.MaxHosts, 4}, {"MaxCache", api.MaxCache, 8},
		{"MaxNames", api.MaxNames, 8}, {"MaxName", api.MaxName, 253}, {"MaxLabel", api.MaxLabel, 63},
		{"MaxLocal", api.MaxLocal, 64}, {"MaxID", api.MaxID, 32}, {"MaxPolicy", api.MaxPolicy, 1024},
		{"MaxMX", api.MaxMX, 8}, {"MaxAge", api.MaxAge, 31557600}, {"MaxChain", api.MaxChain, 4},
		{"MaxCert", api.MaxCert, 512}, {"MaxTLSA", api.MaxTLSA, 4}, {"MaxAnchors", api.MaxAnchors, 4},
		{"MaxSecs", api.MaxSecs, 1 << 30}, {"MaxClock", api.MaxClock, 1 << 40}, {"MaxEvents", api.MaxEvents, 1 << 12},
		{"MaxKeep", api.MaxKeep, 1 << 10}, {"Sector", api.Sector, 128}, {"MaxSectors", api.MaxSectors, 1 << 10},
		{"Day", api.Day, 86400},
	} {
		if x.got != x.want {
			t.Errorf("%s: %d; want %d", x.name, x.got, x.want)
		}
	}
}
