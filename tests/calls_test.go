package tests

import (
	"fmt"
	"math/rand"
	"slices"
	"strings"
	"testing"

	"loop.example/g00761/impl"
)

// plannedCalls are all the calls that MakePlan plans, but for their texts.
func plannedCalls() []impl.Op {
	var out []impl.Op
	for kind := impl.OpCreate; kind <= impl.OpRead; kind++ {
		out = append(out, someOps(kind)...)
	}
	return out
}

// wantPlanned asks for the first step of a call, on a disk that has this view.
func wantPlanned(t *testing.T, what string, h impl.Host, d impl.Disk, v impl.View) {
	t.Helper()
	plan := plainPlan(v, h.Op)
	switch {
	case plan.Code != impl.PlOk:
		wantAnswer(t, what, h, d, d, plan.Code, "", nil)
	case h.Op.Kind == impl.OpRead && plan.Block < 0:
		wantAnswer(t, what, h, d, d, impl.PlOk, "", nil)
	case h.Op.Kind == impl.OpRead:
		text, _ := impl.Peek(d, h.Id, 16+plan.Block)
		wantAnswer(t, what, h, d, d, impl.PlOk, text, nil)
	case len(plan.Outs) == 0:
		wantAnswer(t, what, h, d, d, impl.PlOk, "", nil)
	case h.Txn == impl.MaxTxn:
		wantAnswer(t, what, h, d, d, impl.PlFull, "", nil)
	default:
		wantOn(t, what, h, d, d, func(h *impl.Host) { h.Plan = plan })
	}
}

func TestCallsArePlanned(t *testing.T) {
	v := planView()
	for _, o := range plannedCalls() {
		for _, txn := range []int{0, 41, impl.MaxTxn - 1, impl.MaxTxn} {
			h := busyHost(o, 0)
			h.Txn = txn
			for _, d := range eachDisk(stepDisk()) {
				wantPlanned(t, fmt.Sprintf("%+v at Txn %d", o, txn), h, d, v)
			}
		}
	}
}

func TestCallsWhereItIsNotReady(t *testing.T) {
	for _, o := range plannedCalls() {
		for _, d := range eachDisk(stepDisk()) {
			h := unready(busyHost(o, 0))
			wantAnswer(t, "not Ready", h, d, d, impl.PlBusy, "", nil)
		}
	}
	for pc := 1; pc <= impl.MaxPc; pc++ {
		h := midHost(pc)
		h.Ready = false
		for _, d := range eachDisk(stepDisk()) {
			wantAnswer(t, fmt.Sprint("not Ready at Pc ", pc), h, d, d, impl.PlBusy, "", nil)
		}
	}
}

// Each code that a plan may be refused by is the reply's.
func TestCallsThatAreRefused(t *testing.T) {
	full := viewWith(func(v *impl.View) { v.Frees = make([]int, impl.MaxFrees) })
	crammed := viewWith(func(v *impl.View) {
		for i := range v.Groups {
			v.Groups[i].Refs = slices.Repeat([]int{1}, impl.GBlocks)
		}
	})
	for _, c := range []struct {
		view impl.View
		op   impl.Op
		code int
	}{
		{planView(), impl.Op{Kind: impl.OpCreate, Vol: 3}, impl.PlNotMine},
		{planView(), impl.Op{Kind: impl.OpRead, Vol: 3}, impl.PlNotMine},
		{planView(), impl.Op{Kind: impl.OpSnap, Vol: 0, To: 3}, impl.PlNotMine},
		{planView(), impl.Op{Kind: impl.OpCreate, Vol: 0}, impl.PlNone},
		{planView(), impl.Op{Kind: impl.OpRead, Vol: 1}, impl.PlNone},
		{crammed, writeOp(), impl.PlNoSpace},
		{planView(), impl.Op{Kind: impl.OpSnap, Vol: 0, To: 1}, impl.PlBusy},
		{full, impl.Op{Kind: impl.OpDiscard, Vol: 0, At: 1}, impl.PlFull},
	} {
		d := diskOf(c.view, []int{2, 2, 7})
		for _, txn := range []int{0, impl.MaxTxn} {
			h := busyHost(c.op, 0)
			h.Txn = txn
			wantAnswer(t, "refused", h, d, d, c.code, "", nil)
		}
	}
}

func TestReadsByHand(t *testing.T) {
	d := landed(stepDisk(), blockOut(0, "nought"), blockOut(6, ""), blockOut(12, fullText()))
	for at, text := range []string{"nought", "", "", fullText()} {
		h := busyHost(impl.Op{Kind: impl.OpRead, Vol: 0, At: at}, 0)
		for _, disk := range eachDisk(d) {
			wantAnswer(t, "a read", h, disk, disk, impl.PlOk, text, nil)
		}
	}
	h := busyHost(impl.Op{Kind: impl.OpRead, Vol: 0, At: 0}, 0)
	own := underWay(underWay(d, 1, blockOut(0, "older"), blockOut(0, "newer")), 2, blockOut(0, "other"))
	wantAnswer(t, "its own writes are under way", h, own, own, impl.PlOk, "newer", nil)
	other := underWay(d, 2, blockOut(0, "other"))
	wantAnswer(t, "another host's write is under way", h, other, other, impl.PlOk, "nought", nil)
}

func TestCallsThatWriteNothing(t *testing.T) {
	empty := viewWith(func(v *impl.View) { v.Frees = nil })
	kept := viewWith(func(v *impl.View) { v.Frees = []int{7, 8, 11} })
	for _, v := range []impl.View{empty, kept} {
		d := diskOf(v, []int{2, 2, 7})
		for _, txn := range []int{0, impl.MaxTxn} {
			h := busyHost(impl.Op{Kind: impl.OpDrain}, 0)
			h.Txn = txn
			wantAnswer(t, "nothing to drain", h, d, d, impl.PlOk, "", nil)
			h.Op = impl.Op{Kind: impl.OpDiscard, Vol: 0, At: 2}
			wantAnswer(t, "nothing to discard", h, d, d, impl.PlOk, "", nil)
		}
	}
	uncounted := viewWith(func(v *impl.View) { v.Groups[0].Refs[0] = 0 })
	d := diskOf(uncounted, []int{2, 2, 7})
	wantAnswer(t, "the block that it lets go of is taken", busyHost(impl.Op{Kind: impl.OpWrite, Text: "t"}, 0), d, d, impl.PlOk, "", nil)
}

func TestCallsAtMaxTxn(t *testing.T) {
	for _, o := range []impl.Op{writeOp(), {Kind: impl.OpCreate, Vol: 1}, {Kind: impl.OpDelete, Vol: 0}, {Kind: impl.OpDrain}} {
		h := busyHost(o, 0)
		h.Txn = impl.MaxTxn
		for _, d := range eachDisk(stepDisk()) {
			wantAnswer(t, "Txn is MaxTxn", h, d, d, impl.PlFull, "", nil)
		}
		h.Txn--
		plan := plainPlan(planView(), o)
		wantOn(t, "Txn is one below MaxTxn", h, stepDisk(), stepDisk(), func(h *impl.Host) { h.Plan = plan })
	}
}

// The view is what the host sees, its own lease being Me, and the list of freed blocks its own.
func TestCallsArePlannedByWhatTheHostSees(t *testing.T) {
	v := planView()
	for id := range impl.MaxHosts {
		me := impl.Lease{Host: id, Epoch: 3}
		mine := viewWith(func(v *impl.View) {
			v.Me, v.Frees = me, []int{8, 13, id}
			for i := range v.Vols {
				v.Vols[i].Lease = map[bool]impl.Lease{true: me, false: planOther}[v.Vols[i].Lease == planMe]
			}
			for i := range v.Groups {
				v.Groups[i].Lease = map[bool]impl.Lease{true: me, false: planOther}[v.Groups[i].Lease == planMe]
			}
		})
		settled := diskOf(mine, []int{3, 3, 3})
		var outs []impl.Out
		for sector := 6; sector < 16; sector++ {
			outs = append(outs, impl.Out{Sector: sector, Text: settled.Sectors[sector]})
		}
		older := diskOf(v, []int{3, 3, 3})
		seen := underWay(underWay(older, (id+1)%3, outOf(9, 5), outOf(6+id, 5)), id, outs...)
		for _, o := range plannedCalls() {
			h := busyHost(o, 0)
			h.Id, h.Epoch = id, 3
			wantPlanned(t, "settled", h, settled, mine)
			wantPlanned(t, "under way", h, seen, mine)
		}
	}
}

func TestCallsPutTheBlock(t *testing.T) {
	for block := range impl.Blocks {
		for _, text := range []string{"", "new", fullText()} {
			h := midHost(1)
			h.Plan.Block, h.Plan.Text = block, text
			goesOnUnlessRefused(t, "a Block", h, stepDisk(), []impl.Out{blockOut(block, text)}, nil, nil)
		}
	}
	h := midHost(1)
	h.Plan.Block = -1
	touchesNothing(t, "no Block", h, stepDisk())
	h.Op, h.Plan.Text = impl.Op{Kind: impl.OpDrain}, ""
	touchesNothing(t, "no Block, and no Text", h, stepDisk())
}

func TestCallsFlush(t *testing.T) {
	mine := []impl.Out{outOf(9, 1), outOf(10, 2), outOf(9, 3), blockOut(4, "four")}
	base := underWay(underWay(underWay(stepDisk(), 0, outOf(9, 7)), 1, mine...), 2, outOf(10, 8))
	for _, pc := range []int{2, 4, 6} {
		wantFlush(t, midHost(pc), base)
	}
}

// ownJournal is the Journal of the host's call under that Txn, told by the plain writer.
func ownJournal(h impl.Host, txn int) impl.Out {
	text, _ := plainShow("j", impl.Journal{Txn: txn, Op: h.Op, Outs: h.Plan.Outs})
	return impl.Out{Sector: 3 + h.Id, Text: text}
}

func TestCallsPutTheJournal(t *testing.T) {
	for _, o := range []impl.Op{writeOp(), {Kind: impl.OpCreate, Vol: 3}, {Kind: impl.OpSnap, Vol: 3, To: 2}, {Kind: impl.OpDrain}, {Kind: impl.OpWrite, Vol: 3, At: 3, Text: fullText()}} {
		for _, txn := range []int{0, 41, 127, impl.MaxTxn - 1} {
			for n := 1; n <= impl.MaxOuts; n++ {
				h := midHost(3)
				h.Op, h.Txn, h.Plan.Outs = o, txn, lastOuts(n)
				goesOnUnlessRefused(t, "the Journal", h, stepDisk(), []impl.Out{ownJournal(h, txn+1)}, nil, func(h *impl.Host) { h.Txn = txn + 1 })
			}
		}
	}
}

// A plan without Outs comes to no Journal: what is put has no bytes, and no step follows.
func TestCallsPutNoJournalOfNoOuts(t *testing.T) {
	h := midHost(3)
	h.Plan.Outs = nil
	d := stepDisk()
	next := underWay(d, 1, impl.Out{Sector: 4})
	wantOn(t, "no Outs", h, d, next, func(h *impl.Host) { h.Txn++ })
	h.Pc, h.Txn = 4, 42
	wantAsItIs(t, "behind it", h, next)
}

func TestCallsPutEachOut(t *testing.T) {
	for n := 1; n <= impl.MaxOuts; n++ {
		for _, outs := range [][]impl.Out{lastOuts(n), windowOuts(0, n), windowOuts(6, n)} {
			h := midHost(5)
			h.Plan.Outs = outs
			goesOnUnlessRefused(t, fmt.Sprint(n, " Outs"), h, stepDisk(), outs, nil, nil)
		}
	}
	h := midHost(5)
	h.Plan.Outs = nil
	touchesNothing(t, "no Outs", h, stepDisk())
}

func TestCallsMarkTheJournal(t *testing.T) {
	for _, txn := range []int{0, 1, 128, impl.MaxTxn} {
		h := midHost(7)
		h.Txn = txn
		goesOnUnlessRefused(t, "the mark", h, stepWith(journalOf(1, 9, outOf(9, 1))), []impl.Out{doneOf(1, txn)}, nil, nil)
	}
}

func TestCallsEnd(t *testing.T) {
	base := underWay(underWay(stepDisk(), 0, outOf(9, 7)), 1, outOf(9, 1), doneOf(1, 41))
	for _, o := range []impl.Op{writeOp(), {Kind: impl.OpCreate, Vol: 3}, {Kind: impl.OpDrain}} {
		h := midHost(8)
		h.Op = o
		for _, d := range []impl.Disk{base, crowded(base, 0)} {
			want := landed(d, outOf(9, 1), doneOf(1, 41))
			want.Pend = slices.DeleteFunc(want.Pend, func(w impl.Write) bool { return w.Host == 1 })
			wantAnswer(t, "the end", h, d, want, impl.PlOk, "", nil)
		}
		refusals(t, "the end", h, base, 0, -1)
	}
}

func TestCallsWithAHigherPc(t *testing.T) {
	for pc := 9; pc <= impl.MaxPc; pc++ {
		for _, o := range plannedCalls() {
			h := midHost(pc)
			h.Op = o
			wantAnswer(t, "a higher Pc", h, stepDisk(), stepDisk(), impl.PlBad, "", nil)
		}
		for _, d := range eachDisk(stepDisk()) {
			wantAnswer(t, "a higher Pc", midHost(pc), d, d, impl.PlBad, "", nil)
		}
	}
}

// alone is a call that is done alone: how many steps it takes, and what is behind it.
func alone(t *testing.T, h impl.Host, d impl.Disk, o impl.Op) (impl.Host, impl.Disk, impl.Reply, int) {
	t.Helper()
	h, done := impl.HostCall(h, o)
	if !done {
		t.Fatalf("HostCall of %+v says false", o)
	}
	for n := 1; n <= 30; n++ {
		var reply impl.Reply
		var told bool
		if h, d, reply, told = stepped(t, fmt.Sprintf("%+v", o), h, d); told {
			return h, d, reply, n
		}
	}
	t.Fatalf("%+v is not answered", o)
	return h, d, impl.Reply{}, 0
}

// ownPool is a random pool on a disk, mostly of the host.
func ownPool(r *rand.Rand, h impl.Host) (*planPool, impl.Disk) {
	p := randomPool(r)
	p.shareOut(r, impl.Lease{Host: h.Id, Epoch: h.Epoch})
	d := impl.Disk{Sectors: p.sectors(), Epochs: []int{1 + r.Intn(9), 1 + r.Intn(9), 1 + r.Intn(9)}}
	d.Epochs[h.Id] = h.Epoch
	return p, d
}

func TestACallAloneIsAnsweredInNineSteps(t *testing.T) {
	r := rand.New(rand.NewSource(8))
	ops := plannedCalls()
	done := 0
	for range 4000 {
		h := impl.Host{Id: r.Intn(impl.MaxHosts), Epoch: 1 + r.Intn(5), Up: true, Ready: true, Txn: r.Intn(impl.MaxTxn)}
		p, d := ownPool(r, h)
		o := ops[r.Intn(len(ops))]
		plan := plainPlan(p.view(impl.Lease{Host: h.Id, Epoch: h.Epoch}), o)
		next, after, reply, n := alone(t, h, d, o)
		want, wantSteps := cloneDisk(d), 1
		if len(plan.Outs) > 0 {
			done++
			wantSteps = 9
			if plan.Block >= 0 {
				want = landed(want, blockOut(plan.Block, plan.Text))
			}
			h.Txn++
			want = landed(landed(want, plan.Outs...), doneOf(h.Id, h.Txn))
		}
		if n != wantSteps || reply.Code != plan.Code || !sameHost(next, h) {
			t.Fatalf("%+v takes %d steps, not %d, and tells %+v; its plan is %+v; the host is %+v, not %+v", o, n, wantSteps, reply, plan, next, h)
		}
		wantDisk(t, "a call alone", after, want)
		if t.Failed() {
			return
		}
	}
	if done < 800 {
		t.Errorf("just %d calls of 4000 wrote anything", done)
	}
}

func TestLeaseCallsAloneTakeOneStep(t *testing.T) {
	r := rand.New(rand.NewSource(88))
	for range 500 {
		h := impl.Host{Id: r.Intn(impl.MaxHosts), Epoch: 1 + r.Intn(5), Up: true, Ready: r.Intn(3) > 0}
		_, d := ownPool(r, h)
		calls := append(getting(), leaving()...)
		if _, _, _, n := alone(t, h, d, calls[r.Intn(len(calls))].op); n != 1 {
			t.Errorf("a call for a lease takes %d steps", n)
		}
	}
}

// wantJournalAt asks which Journal host 1 has on the disk, and whether another one of its is under way.
func wantJournalAt(t *testing.T, what string, d impl.Disk, stands impl.Out, pend int) {
	t.Helper()
	if d.Sectors[stands.Sector] != stands.Text || len(d.Pend) != pend {
		t.Errorf("%s: the Journal is %q, not %q, and %d writes are under way, not %d", what, d.Sectors[stands.Sector], stands.Text, len(d.Pend), pend)
	}
}

// What is put stands on the disk no sooner than its Flush.
func TestACallStepByStep(t *testing.T) {
	h, d := busyHost(writeOp(), 0), landed(stepDisk(), doneOf(1, 41))
	plan := plainPlan(planView(), writeOp())
	planned := h
	planned.Plan = plan
	open, done := ownJournal(planned, 42), doneOf(1, 42)
	for _, c := range []struct {
		journal impl.Out
		pend    int
		txn     int
	}{{doneOf(1, 41), 0, 41}, {doneOf(1, 41), 1, 41}, {doneOf(1, 41), 0, 41}, {doneOf(1, 41), 1, 42}, {open, 0, 42}, {open, len(plan.Outs), 42}, {open, 0, 42}, {open, 1, 42}, {done, 0, 42}} {
		what := fmt.Sprint("behind Pc ", h.Pc)
		h, d, _, _ = stepped(t, what, h, d)
		wantJournalAt(t, what, d, c.journal, c.pend)
		if h.Txn != c.txn {
			t.Errorf("%s: Txn is %d, not %d", what, h.Txn, c.txn)
		}
	}
	want := landed(landed(stepDisk(), plan.Outs...), done, blockOut(plan.Block, "new"))
	wantDisk(t, "at the end", d, want)
}

// A host that falls under way is recovered by another one, or by itself, and its call is done whole or not at all.
func TestACallThatFallsIsDoneWholeOrNotAtAll(t *testing.T) {
	before := landed(stepDisk(), doneOf(1, 41), recOut(0, planNo), recOut(1, planNo))
	plan := plainPlan(planView(), writeOp())
	none, _ := impl.Abstract(before.Sectors)
	all, done := impl.PoolDo(none, writeOp())
	if !done || len(plan.Outs) == 0 {
		t.Fatal("the call is not done")
	}
	for pc := range 9 {
		h, d := busyHost(writeOp(), 0), before
		for range pc {
			h, d, _, _ = impl.HostStep(h, d)
		}
		for _, lands := range []bool{true, false} {
			for lands && len(d.Pend) > 0 {
				d, _ = impl.Land(d, 0)
			}
			for _, who := range []int{0, 1} {
				want := none
				if j, _ := impl.ReadJournal(d.Sectors[4]); j.Txn == 42 {
					want = all
				}
				wantRecovered(t, fmt.Sprint("fallen at Pc ", pc, ", recovered by ", who), d, who, want)
			}
		}
	}
}

// wantRecovered lets that host recover host 1, and asks what the disk says then, and for the leases that were given back.
func wantRecovered(t *testing.T, what string, d impl.Disk, who int, want impl.Pool) {
	t.Helper()
	h := impl.Host{Id: 0, Epoch: 2, Up: true, Ready: true}
	if who == 1 {
		h, d, _ = impl.HostRise(downHost(1), d)
	} else {
		h, _ = impl.HostCall(h, impl.Op{Kind: impl.OpRecover, Vol: 1})
	}
	told, n := false, 0
	var reply impl.Reply
	for ; !told && n < 30; n++ {
		h, d, reply, told = stepped(t, what, h, d)
	}
	journal, _ := impl.ReadJournal(d.Sectors[4])
	if reply.Code != impl.PlOk || n != 11 && n != 14 || !journal.Done || len(d.Pend) != 0 || !h.Ready || d.Epochs[1] != 3 {
		t.Errorf("%s: behind %d steps there is %+v, %+v, %+v, %s", what, n, reply, h, journal, diskInShort(d))
	}
	if who == 1 && h.Txn != journal.Txn {
		t.Errorf("%s: Txn is %d, that of the Journal %d", what, h.Txn, journal.Txn)
	}
	got, ok := impl.Abstract(d.Sectors)
	if !ok || !samePool(got, want) {
		t.Errorf("%s: the disk says %+v %v, not %+v", what, got, ok, want)
	}
	for sector := 9; sector < 16; sector++ {
		if strings.HasPrefix(d.Sectors[sector][5:], impl.Var(2)+impl.Var(2)) {
			t.Errorf("%s: sector %d is host 1's still", what, sector)
		}
	}
}
