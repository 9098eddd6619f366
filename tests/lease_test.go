package tests

import (
	"fmt"
	"testing"

	"loop.example/g00761/impl"
)

// leaseCall is a call for a lease, and the sector that has it.
type leaseCall struct {
	op     impl.Op
	sector int
}

func getting() []leaseCall {
	var out []leaseCall
	for i := range impl.MaxVols {
		out = append(out, leaseCall{impl.Op{Kind: impl.OpHold, Vol: i}, 9 + i})
	}
	for i := range impl.MaxGroups {
		out = append(out, leaseCall{impl.Op{Kind: impl.OpTake, Vol: i}, 13 + i})
	}
	return out
}

func leaving() []leaseCall {
	var out []leaseCall
	for i := range impl.MaxVols {
		out = append(out, leaseCall{impl.Op{Kind: impl.OpDrop, Vol: i}, 9 + i})
	}
	for i := range impl.MaxGroups {
		out = append(out, leaseCall{impl.Op{Kind: impl.OpGive, Vol: i}, 13 + i})
	}
	return out
}

// othersLeases are of other hosts, or of the host under another epoch; it is all the same whether they are fenced.
func othersLeases() []impl.Lease {
	return []impl.Lease{planOther, stepThird, stepOldThird, planOld, {Host: 1, Epoch: 3}, {Host: 0, Epoch: 1}, {Host: 0, Epoch: 3}, {Host: 2, Epoch: 2}}
}

// eachDisk is the disk as it is, without room, and with the host fenced.
func eachDisk(d impl.Disk) []impl.Disk {
	return []impl.Disk{d, crowded(d, 0), withEpoch(d, 1, 3)}
}

func TestHoldAndTake(t *testing.T) {
	for _, c := range getting() {
		h := busyHost(c.op, 0)
		what := func(why string) string { return fmt.Sprintf("%+v: %s", c.op, why) }
		for _, d := range eachDisk(stepWith(leaseOut(c.sector, planMe))) {
			wantAnswer(t, what("it is its own"), h, d, d, impl.PlOk, "", nil)
		}
		for _, lease := range othersLeases() {
			for _, d := range eachDisk(stepWith(leaseOut(c.sector, lease))) {
				wantAnswer(t, what("it is another one's"), h, d, d, impl.PlBusy, "", nil)
			}
		}
		d := stepWith(leaseOut(c.sector, planNo))
		for _, disk := range []impl.Disk{d, crowded(d, 0)} {
			wantAnswer(t, what("it is nobody's"), h, disk, landed(disk, leaseOut(c.sector, planMe)), impl.PlOk, "", nil)
		}
		refusals(t, what("it is nobody's"), h, d, 0, c.sector)
	}
}

func TestDropAndGive(t *testing.T) {
	for _, c := range leaving() {
		h := busyHost(c.op, 0)
		what := func(why string) string { return fmt.Sprintf("%+v: %s", c.op, why) }
		for _, lease := range append(othersLeases(), planNo) {
			for _, d := range eachDisk(stepWith(leaseOut(c.sector, lease))) {
				wantAnswer(t, what("it is not its own"), h, d, d, impl.PlNotMine, "", nil)
			}
		}
		d := stepWith(leaseOut(c.sector, planMe))
		for _, disk := range []impl.Disk{d, crowded(d, 0)} {
			wantAnswer(t, what("it is its own"), h, disk, landed(disk, leaseOut(c.sector, planNo)), impl.PlOk, "", nil)
		}
		refusals(t, what("it is its own"), h, d, 0, c.sector)
	}
}

func TestLeaseCallsAskWhatTheHostSees(t *testing.T) {
	for _, c := range getting() {
		h := busyHost(c.op, 0)
		d := underWay(stepWith(leaseOut(c.sector, planNo)), 1, leaseOut(c.sector, planMe))
		wantAnswer(t, "its own is under way", h, d, d, impl.PlOk, "", nil)
		d = underWay(stepWith(leaseOut(c.sector, planNo)), 1, leaseOut(c.sector, planOther))
		wantAnswer(t, "another one's is under way", h, d, d, impl.PlBusy, "", nil)
		d = underWay(stepWith(leaseOut(c.sector, planMe)), 1, leaseOut(c.sector, planNo))
		wantAsItIs(t, "nobody's is under way", h, d)
		d = underWay(stepWith(leaseOut(c.sector, planNo)), 2, leaseOut(c.sector, stepThird))
		wantAnswer(t, "another host's write is under way", h, d, landed(d, leaseOut(c.sector, planMe)), impl.PlOk, "", nil)
	}
	for _, c := range leaving() {
		h := busyHost(c.op, 0)
		d := underWay(stepWith(leaseOut(c.sector, planMe)), 1, leaseOut(c.sector, planNo))
		wantAnswer(t, "nobody's is under way", h, d, d, impl.PlNotMine, "", nil)
		d = underWay(stepWith(leaseOut(c.sector, planNo)), 1, leaseOut(c.sector, planMe))
		wantAsItIs(t, "its own is under way", h, d)
	}
}

// These calls have one step, and the chapter names no Pc for it.
func TestLeaseCallsAtEachPc(t *testing.T) {
	for _, c := range append(getting(), leaving()...) {
		free, mine := stepWith(leaseOut(c.sector, planNo)), stepWith(leaseOut(c.sector, planMe))
		for pc := range impl.MaxPc + 1 {
			h := busyHost(c.op, pc)
			if c.op.Kind == impl.OpHold || c.op.Kind == impl.OpTake {
				wantAnswer(t, "nobody's", h, free, mine, impl.PlOk, "", nil)
				wantAnswer(t, "its own", h, mine, mine, impl.PlOk, "", nil)
			} else {
				wantAnswer(t, "nobody's", h, free, free, impl.PlNotMine, "", nil)
				wantAnswer(t, "its own", h, mine, free, impl.PlOk, "", nil)
			}
		}
	}
}

func TestLeaseCallsWhereItIsNotReady(t *testing.T) {
	for _, c := range append(getting(), leaving()...) {
		for _, lease := range append(othersLeases(), planNo, planMe) {
			for _, d := range eachDisk(stepWith(leaseOut(c.sector, lease))) {
				wantAnswer(t, "not Ready", unready(busyHost(c.op, 0)), d, d, impl.PlBusy, "", nil)
			}
		}
	}
}
