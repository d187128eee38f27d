package keys_test

import (
	"testing"

	"tontine/api"
)

// Every layer counts on the limits of package api, so the lowest one holds them against the document.
func TestLimits(t *testing.T) {
	for _, c := range []struct {
		name      string
		got, want int64
	}{
		{"Buckets", api.Buckets, 64},
		{"Replicas", api.Replicas, 4},
		{"Founders", api.Founders, 3},
		{"MaxNodes", api.MaxNodes, 12},
		{"MaxKey", api.MaxKey, 32},
		{"MaxValue", api.MaxValue, 64},
		{"MaxBucket", api.MaxBucket, 8},
		{"MaxItems", api.MaxItems, 8},
		{"MaxInsts", api.MaxInsts, 4096},
		{"MaxTxs", api.MaxTxs, 64},
		{"MaxHeld", api.MaxHeld, 16},
		{"MaxCount", api.MaxCount, 2147483647},
		{"MaxFrame", api.MaxFrame, 65536},
		{"MaxWaiting", api.MaxWaiting, 131072},
		{"MaxText", api.MaxText, 64},
		{"MaxLocks", api.MaxLocks, 64},
		{"MaxVoted", api.MaxVoted, 64},
		{"MaxCopies", api.MaxCopies, 64},
		{"MaxTime", api.MaxTime, 1099511627776},
		{"MaxTimers", api.MaxTimers, 256},
		{"MaxDrift", api.MaxDrift, 100},
		{"MaxNet", api.MaxNet, 4096},
		{"MaxInbox", api.MaxInbox, 256},
		{"MaxTries", api.MaxTries, 16},
		{"MaxHops", api.MaxHops, 8},
		{"Succs", api.Succs, 4},
		{"MaxScript", api.MaxScript, 20000},
		{"MaxLines", api.MaxLines, 400},
		{"MaxLine", api.MaxLine, 400},
		{"MsgNone", int64(api.MsgNone), 0},
		{"MsgKinds", int64(api.MsgKinds), 24},
		{"OK", int64(api.OK), 0},
		{"ErrArg", int64(api.ErrArg), 1},
	} {
		if c.got != c.want {
			t.Errorf("%s: %d, want %d", c.name, c.got, c.want)
		}
	}
}
