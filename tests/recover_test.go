package tests

import (
	"fmt"
	"slices"
	"testing"

	"loop.example/g00761/impl"
)

// bothReady is the host, and the same one that is not Ready: for an OpRecover that is all the same.
func bothReady(h impl.Host) []impl.Host { return []impl.Host{h, unready(h)} }

func TestRecoverClaims(t *testing.T) {
	for x := range impl.MaxHosts {
		for _, h := range bothReady(recoverHost(x, 0)) {
			touchesNothing(t, "Rec is its own lease", h, stepWith(recOut(x, planMe)))
			for _, rec := range []impl.Lease{planNo, planOld, {Host: 1, Epoch: 3}, {Host: 0, Epoch: 1}, {Host: 0, Epoch: 3}, stepOldThird, {Host: 2, Epoch: 8}, {Host: 2, Epoch: impl.MaxEpoch}} {
				d := stepWith(recOut(x, rec))
				goesOnUnlessRefused(t, fmt.Sprint("Rec is ", rec), h, d, nil, []impl.Out{recOut(x, planMe)}, nil)
			}
			for _, rec := range []impl.Lease{planOther, stepThird} {
				d := stepWith(recOut(x, rec))
				wantAnswer(t, "Rec is of another host that is not fenced", h, d, d, impl.PlBusy, "", nil)
				full := crowded(d, 0)
				wantAnswer(t, "Rec is of another host, the disk is full", h, full, full, impl.PlBusy, "", nil)
			}
		}
	}
}

func TestRecoverClaimsWhatItSees(t *testing.T) {
	for x := range impl.MaxHosts {
		h := recoverHost(x, 0)
		d := underWay(stepWith(recOut(x, planOther)), 1, recOut(x, planMe))
		wantOn(t, "its own lease is under way", h, d, d, nil)
		d = underWay(stepWith(recOut(x, planMe)), 1, recOut(x, stepThird))
		wantAnswer(t, "another one's lease is under way", h, d, d, impl.PlBusy, "", nil)
		d = underWay(stepWith(recOut(x, planOther)), 1, recOut(x, planNo))
		wantAsItIs(t, "nobody is under way", h, d)
		d = underWay(stepWith(recOut(x, planNo)), 2, recOut(x, stepThird))
		wantOn(t, "another host's write is under way", h, d, landed(d, recOut(x, planMe)), nil)
	}
}

func TestRecoverOfOneThatIsFenced(t *testing.T) {
	for x := range impl.MaxHosts {
		fenced := withEpoch(stepWith(recOut(x, impl.Lease{Host: 1, Epoch: 3})), 1, 3)
		wantAnswer(t, "Rec is of itself, risen since", recoverHost(x, 0), fenced, fenced, impl.PlBusy, "", nil)
		mine := withEpoch(stepWith(recOut(x, planMe)), 1, 3)
		wantOn(t, "Rec is its own lease still", recoverHost(x, 0), mine, mine, nil)
	}
}

func TestRecoverFences(t *testing.T) {
	base := underWay(underWay(underWay(stepDisk(), 0, outOf(16, 1), outOf(9, 2)), 2, outOf(17, 1)), 1, outOf(18, 1))
	base = underWay(base, 0, outOf(16, 3))
	for _, h := range bothReady(recoverHost(1, 1)) {
		touchesNothing(t, "it is itself", h, base)
		atMost := withEpoch(base, 1, impl.MaxEpoch)
		wantOn(t, "it is itself, at MaxEpoch", h, atMost, atMost, nil)
	}
	for _, x := range []int{0, 2} {
		for _, h := range bothReady(recoverHost(x, 1)) {
			for _, d := range []impl.Disk{base, crowded(base, 0), withEpoch(base, 1, 5), withEpoch(base, x, 1), withEpoch(base, x, impl.MaxEpoch-1)} {
				wantOn(t, "it is another host", h, d, withEpoch(d, x, d.Epochs[x]+1), nil)
			}
			last := underWay(withEpoch(base, x, impl.MaxEpoch), x, outOf(16, 1))
			wantAnswer(t, "the other host is at MaxEpoch", h, last, last, impl.PlBusy, "", nil)
		}
	}
}

func TestRecoverOfAJournalThatIsDone(t *testing.T) {
	for x := range impl.MaxHosts {
		for _, h := range bothReady(recoverHost(x, 2)) {
			next := h
			next.Pc = 6
			for _, txn := range []int{0, 1, impl.MaxTxn} {
				d := stepWith(doneOf(x, txn))
				for _, disk := range []impl.Disk{d, crowded(d, 0), withEpoch(d, 1, 3)} {
					wantStep(t, "its Journal is Done", h, disk, next, disk, impl.Reply{}, false)
				}
			}
			seen := underWay(stepWith(journalOf(x, 8, outOf(9, 1))), 1, doneOf(x, 8))
			wantStep(t, "it sees it Done", h, seen, next, seen, impl.Reply{}, false)
		}
	}
}

func TestRecoverPutsEachOut(t *testing.T) {
	for x := range impl.MaxHosts {
		for _, h := range bothReady(recoverHost(x, 2)) {
			for n := 1; n <= impl.MaxOuts; n++ {
				for _, outs := range [][]impl.Out{lastOuts(n), windowOuts(0, n), windowOuts(6, n)} {
					goesOnUnlessRefused(t, fmt.Sprint(n, " Outs"), h, stepWith(journalOf(x, 8, outs...)), outs, nil, nil)
				}
			}
			d := underWay(stepWith(doneOf(x, 8)), 1, journalOf(x, 9, outOf(9, 1), outOf(13, 2)))
			wantOn(t, "it sees it open", h, d, underWay(d, 1, outOf(9, 1), outOf(13, 2)), nil)
			d = underWay(stepWith(journalOf(x, 9, outOf(9, 1))), 0, doneOf(x, 9), outOf(9, 4))
			wantOn(t, "others see it Done", h, d, underWay(d, 1, outOf(9, 1)), nil)
		}
	}
}

// Not the journals of the hosts beside it, whether they are open or not.
func TestRecoverOfOneJournalAlone(t *testing.T) {
	for x := range impl.MaxHosts {
		d := stepWith(journalOf(0, 5, outOf(9, 1)), journalOf(1, 6, outOf(10, 2)), journalOf(2, 7, outOf(11, 3)))
		wantOn(t, "all are open", recoverHost(x, 2), d, underWay(d, 1, outOf(9+x, 1+x)), nil)
		wantOn(t, "all are open", recoverHost(x, 4), d, underWay(d, 1, doneOf(x, 5+x)), nil)
	}
}

func TestRecoverFlushes(t *testing.T) {
	mine := []impl.Out{outOf(9, 1), outOf(10, 2), outOf(9, 3), blockOut(4, "four")}
	base := underWay(underWay(underWay(stepDisk(), 0, outOf(9, 7)), 1, mine...), 2, outOf(10, 8))
	for x := range impl.MaxHosts {
		for _, pc := range []int{3, 5} {
			for _, h := range bothReady(recoverHost(x, pc)) {
				wantFlush(t, h, base)
			}
		}
	}
}

// wantFlush asks for a step that lands all writes of host 1, and goes on.
func wantFlush(t *testing.T, h impl.Host, base impl.Disk) {
	t.Helper()
	for _, d := range []impl.Disk{base, stepDisk(), crowded(base, 0), crowded(stepDisk(), 0)} {
		want := cloneDisk(d)
		for _, w := range d.Pend {
			if w.Host == 1 {
				want.Sectors[w.Sector] = w.Text
			}
		}
		want.Pend = slices.DeleteFunc(want.Pend, func(w impl.Write) bool { return w.Host == 1 })
		wantOn(t, "Flush", h, d, want, nil)
		refusals(t, "Flush", h, d, 0, -1)
	}
}

func TestRecoverMarksTheJournal(t *testing.T) {
	for x := range impl.MaxHosts {
		for _, h := range bothReady(recoverHost(x, 4)) {
			for _, txn := range []int{1, 128, impl.MaxTxn} {
				goesOnUnlessRefused(t, "its Journal is open", h, stepWith(journalOf(x, txn, outOf(9, 1))), []impl.Out{doneOf(x, txn)}, nil, nil)
				goesOnUnlessRefused(t, "its Journal is Done", h, stepWith(doneOf(x, txn)), []impl.Out{doneOf(x, txn)}, nil, nil)
				seen := underWay(stepWith(doneOf(x, 3)), 1, journalOf(x, txn, outOf(9, 1)))
				wantOn(t, "it sees another one", h, seen, underWay(seen, 1, doneOf(x, txn)), nil)
			}
		}
	}
}

func TestRecoverGivesLeasesBack(t *testing.T) {
	epochs := []int{2, 2, 7}
	for x := range impl.MaxHosts {
		for i := range 7 {
			for _, h := range bothReady(recoverHost(x, 6+i)) {
				for _, epoch := range []int{1, epochs[x] - 1, epochs[x] + 1, impl.MaxEpoch} {
					d := stepWith(leaseOut(9+i, impl.Lease{Host: x, Epoch: epoch}))
					goesOnUnlessRefused(t, fmt.Sprint("sector ", 9+i, " is of x, under ", epoch), h, d, nil, []impl.Out{leaseOut(9+i, planNo)}, nil)
				}
				for _, lease := range []impl.Lease{{Host: x, Epoch: epochs[x]}, planNo, {Host: (x + 1) % 3, Epoch: 1}, {Host: (x + 2) % 3, Epoch: 1}, {Host: (x + 1) % 3, Epoch: epochs[x]}} {
					d := stepWith(leaseOut(9+i, lease))
					for _, disk := range []impl.Disk{d, crowded(d, 0)} {
						wantOn(t, fmt.Sprint("sector ", 9+i, " is of ", lease), h, disk, disk, nil)
					}
				}
			}
		}
	}
}

func TestRecoverGivesBackOneLeaseAStep(t *testing.T) {
	old := impl.Lease{Host: 2, Epoch: 6}
	var outs []impl.Out
	for sector := 9; sector < 16; sector++ {
		outs = append(outs, leaseOut(sector, old))
	}
	d := stepWith(outs...)
	for i := range 7 {
		next := landed(d, leaseOut(9+i, planNo))
		wantOn(t, "all are of x", recoverHost(2, 6+i), d, next, nil)
		wantOn(t, "all are of x", recoverHost(0, 6+i), d, d, nil)
		d = next
	}
}

func TestRecoverGivesBackWhatItSees(t *testing.T) {
	for sector := 9; sector < 16; sector++ {
		h := recoverHost(2, sector-3)
		d := underWay(stepWith(leaseOut(sector, stepOldThird)), 1, leaseOut(sector, planMe))
		wantOn(t, "its own write under way is of another host", h, d, d, nil)
		d = underWay(stepWith(leaseOut(sector, planMe)), 1, leaseOut(sector, stepOldThird))
		wantAsItIs(t, "its own write under way is of x", h, d)
		d = underWay(stepWith(leaseOut(sector, stepOldThird)), 0, leaseOut(sector, planOther))
		wantOn(t, "another host's write is under way", h, d, landed(d, leaseOut(sector, planNo)), nil)
		fenced := withEpoch(stepWith(leaseOut(sector, stepThird)), 1, 3)
		wantOn(t, "it is fenced, and has nothing to swap", h, fenced, fenced, nil)
	}
}

func TestRecoverEndsOfAnotherHost(t *testing.T) {
	for _, x := range []int{0, 2} {
		for _, h := range bothReady(recoverHost(x, 13)) {
			for _, rec := range []impl.Lease{planMe, planNo, planOther, stepThird, planOld} {
				d := stepWith(recOut(x, rec), doneOf(x, 77), doneOf(1, 78))
				for _, disk := range []impl.Disk{d, crowded(d, 0)} {
					wantAnswer(t, fmt.Sprint("Rec is ", rec), h, disk, landed(disk, recOut(x, planNo)), impl.PlOk, "", nil)
				}
				refusals(t, fmt.Sprint("Rec is ", rec), h, d, 0, x)
			}
		}
	}
}

func TestRecoverEndsOfItself(t *testing.T) {
	for _, h := range bothReady(recoverHost(1, 13)) {
		for _, txn := range []int{0, 1, 128, impl.MaxTxn} {
			d := stepWith(recOut(1, planMe), doneOf(1, txn), doneOf(0, 5), doneOf(2, 6))
			ready := func(h *impl.Host) { h.Ready, h.Txn = true, txn }
			wantAnswer(t, "of itself", h, d, landed(d, recOut(1, planNo)), impl.PlOk, "", ready)
			seen := underWay(landed(d, doneOf(1, 9)), 1, doneOf(1, txn))
			wantAnswer(t, "its Journal is under way", h, seen, landed(seen, recOut(1, planNo)), impl.PlOk, "", ready)
			if txn > 0 {
				open := landed(d, journalOf(1, txn, outOf(9, 1)))
				wantAnswer(t, "its Journal is open", h, open, landed(open, recOut(1, planNo)), impl.PlOk, "", ready)
			}
			refusals(t, "of itself", h, d, 0, 1)
		}
	}
}

func TestRecoverKeepsTheBeat(t *testing.T) {
	for x := range impl.MaxHosts {
		for _, beat := range []int{0, 1, 200, impl.MaxBeat} {
			sec := func(rec impl.Lease) impl.Out {
				text, _ := plainShow("h", impl.HostSec{Beat: beat, Rec: rec})
				return impl.Out{Sector: x, Text: text}
			}
			d := stepWith(sec(planNo), doneOf(1, 41))
			wantOn(t, "the claim", recoverHost(x, 0), d, landed(d, sec(planMe)), nil)
			d = stepWith(sec(planMe), doneOf(1, 41))
			wantAnswer(t, "the end", recoverHost(x, 13), d, landed(d, sec(planNo)), impl.PlOk, "", nil)
		}
	}
}

func TestRecoverWithAHigherPc(t *testing.T) {
	for x := range impl.MaxHosts {
		for pc := 14; pc <= impl.MaxPc; pc++ {
			for _, h := range bothReady(recoverHost(x, pc)) {
				for _, d := range []impl.Disk{stepDisk(), crowded(stepDisk(), 0), withEpoch(stepDisk(), 1, 3)} {
					wantAnswer(t, "a higher Pc", h, d, d, impl.PlBad, "", nil)
				}
			}
		}
	}
}

// What plan a host has is nothing to its OpRecover: it keeps it until it replies.
func TestRecoverHangsOnNoPlan(t *testing.T) {
	for x := range impl.MaxHosts {
		for pc := 1; pc <= 14; pc++ {
			plain := recoverHost(x, pc)
			planned := midHost(pc)
			planned.Op = plain.Op
			d := stepWith(recOut(x, planMe), journalOf(x, 9, outOf(10, 3)), leaseOut(11, impl.Lease{Host: x, Epoch: 1}))
			want, wantDisk, wantReply, wantTold := impl.HostStep(plain, d)
			if !wantTold {
				want.Plan = planned.Plan
			}
			wantStep(t, fmt.Sprint("a plan at Pc ", pc), planned, d, want, wantDisk, wantReply, wantTold)
		}
	}
}

// At MaxTxn the chapter's words lead an OpRecover to a Pc at which HostOk wants a lesser Txn.
func TestRecoverAtMaxTxn(t *testing.T) {
	h := recoverHost(2, 0)
	h.Txn = impl.MaxTxn
	d := stepWith(recOut(2, planMe))
	wantOn(t, "at MaxTxn", h, d, d, nil)
	for _, pc := range []int{4, 5, 6, 9, 12} {
		h.Pc = pc
		wantHostOk(t, "at MaxTxn, further on", h, true)
	}
	h.Pc = 13
	wantAnswer(t, "at MaxTxn, the end", h, d, landed(d, recOut(2, planNo)), impl.PlOk, "", nil)
}
