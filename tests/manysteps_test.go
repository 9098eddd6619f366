package tests

import (
	"fmt"
	"math/rand"
	"slices"
	"testing"

	"loop.example/g00761/impl"
)

// plainTurn is a step by the chapter's words once more: what it asks of the disk, in order, and then what comes of it.
type plainTurn struct {
	host  impl.Host
	disk  impl.Disk
	calls []diskCall
	next  impl.Host
	reply impl.Reply
	told  bool
}

func (p *plainTurn) sees(sector int) string {
	text, _ := impl.Peek(p.disk, p.host.Id, sector)
	return text
}

func (p *plainTurn) me() impl.Lease { return impl.Lease{Host: p.host.Id, Epoch: p.host.Epoch} }

func (p *plainTurn) put(sector int, text string) {
	p.calls = append(p.calls, putCall(p.host.Id, p.host.Epoch, sector, text))
}

func (p *plainTurn) swap(sector int, text string) {
	p.calls = append(p.calls, swapCall(p.host.Id, p.host.Epoch, sector, p.sees(sector), text))
}

func (p *plainTurn) flush() {
	p.calls = append(p.calls, flushCall(p.host.Id, p.host.Epoch))
}

func (p *plainTurn) says(code int, data string) {
	p.next.Busy, p.next.Op, p.next.Pc, p.next.Plan = false, impl.Op{}, 0, impl.Plan{}
	p.reply, p.told = impl.Reply{Host: p.host.Id, Op: p.host.Op, Code: code, Data: data}, true
}

// lease is the Lease in a volume's or a group's sector.
func (p *plainTurn) lease(sector int) impl.Lease {
	if vol, ok := impl.ReadVol(p.sees(sector)); ok {
		return vol.Lease
	}
	group, _ := impl.ReadGroup(p.sees(sector))
	return group.Lease
}

func (p *plainTurn) swapLease(sector int, lease impl.Lease) {
	if vol, ok := impl.ReadVol(p.sees(sector)); ok {
		vol.Lease = lease
		p.swap(sector, impl.ShowVol(vol))
		return
	}
	group, _ := impl.ReadGroup(p.sees(sector))
	group.Lease = lease
	p.swap(sector, impl.ShowGroup(group))
}

func (p *plainTurn) recover() {
	x := p.host.Op.Vol
	sec, _ := impl.ReadHost(p.sees(x))
	journal, _ := impl.ReadJournal(p.sees(3 + x))
	p.next.Pc++
	switch pc := p.host.Pc; {
	case pc == 0 && sec.Rec == p.me():
	case pc == 0 && sec.Rec.Host >= 0 && p.disk.Epochs[sec.Rec.Host] == sec.Rec.Epoch:
		p.says(impl.PlBusy, "")
	case pc == 0:
		p.swap(x, impl.ShowHost(impl.HostSec{Beat: sec.Beat, Rec: p.me()}))
	case pc == 1 && x == p.host.Id:
	case pc == 1 && p.disk.Epochs[x] == impl.MaxEpoch:
		p.says(impl.PlBusy, "")
	case pc == 1:
		p.calls = append(p.calls, fenceCall(x))
	case pc == 2 && journal.Done:
		p.next.Pc = 6
	case pc == 2:
		for _, out := range journal.Outs {
			p.put(out.Sector, out.Text)
		}
	case pc == 3 || pc == 5:
		p.flush()
	case pc == 4:
		p.put(3+x, doneText(journal.Txn))
	case pc <= 12:
		if lease := p.lease(pc + 3); lease.Host == x && lease.Epoch != p.disk.Epochs[x] {
			p.swapLease(pc+3, planNo)
		}
	case pc == 13:
		p.swap(x, impl.ShowHost(impl.HostSec{Beat: sec.Beat, Rec: planNo}))
		if x == p.host.Id {
			p.next.Ready, p.next.Txn = true, journal.Txn
		}
		p.says(impl.PlOk, "")
	default:
		p.says(impl.PlBad, "")
	}
}

func (p *plainTurn) leaseCall() {
	get := p.host.Op.Kind == impl.OpHold || p.host.Op.Kind == impl.OpTake
	sector := 9 + p.host.Op.Vol
	if p.host.Op.Kind == impl.OpTake || p.host.Op.Kind == impl.OpGive {
		sector = 13 + p.host.Op.Vol
	}
	lease := p.lease(sector)
	switch {
	case get && lease == p.me():
		p.says(impl.PlOk, "")
	case get && lease != planNo:
		p.says(impl.PlBusy, "")
	case get:
		p.swapLease(sector, p.me())
		p.says(impl.PlOk, "")
	case lease != p.me():
		p.says(impl.PlNotMine, "")
	default:
		p.swapLease(sector, planNo)
		p.says(impl.PlOk, "")
	}
}

func (p *plainTurn) view() impl.View {
	v := impl.View{Me: p.me()}
	for sector := 9; sector < 13; sector++ {
		vol, _ := impl.ReadVol(p.sees(sector))
		v.Vols = append(v.Vols, vol)
	}
	for sector := 13; sector < 16; sector++ {
		group, _ := impl.ReadGroup(p.sees(sector))
		v.Groups = append(v.Groups, group)
	}
	v.Frees, _ = impl.ReadFrees(p.sees(6 + p.host.Id))
	return v
}

func (p *plainTurn) plan() {
	plan := plainPlan(p.view(), p.host.Op)
	switch {
	case plan.Code != impl.PlOk:
		p.says(plan.Code, "")
	case p.host.Op.Kind == impl.OpRead && plan.Block >= 0:
		p.says(impl.PlOk, p.sees(16+plan.Block))
	case len(plan.Outs) == 0:
		p.says(impl.PlOk, "")
	case p.host.Txn == impl.MaxTxn:
		p.says(impl.PlFull, "")
	default:
		p.next.Plan = plan
	}
}

func (p *plainTurn) planned() {
	p.next.Pc++
	switch h := p.host; h.Pc {
	case 0:
		p.plan()
	case 1:
		if h.Plan.Block != -1 {
			p.put(16+h.Plan.Block, h.Plan.Text)
		}
	case 2, 4, 6:
		p.flush()
	case 3:
		p.next.Txn++
		p.put(3+h.Id, impl.ShowJournal(impl.Journal{Txn: h.Txn + 1, Op: h.Op, Outs: h.Plan.Outs}))
	case 5:
		for _, out := range h.Plan.Outs {
			p.put(out.Sector, out.Text)
		}
	case 7:
		p.put(3+h.Id, doneText(h.Txn))
	case 8:
		p.flush()
		p.says(impl.PlOk, "")
	default:
		p.says(impl.PlBad, "")
	}
}

func seesAPool(h impl.Host, d impl.Disk) bool {
	var seen []string
	for sector := range d.Sectors {
		text, _ := impl.Peek(d, h.Id, sector)
		seen = append(seen, text)
	}
	return impl.PoolOk(d.Sectors) && impl.PoolOk(seen)
}

func plainStep(h impl.Host, d impl.Disk) (impl.Host, impl.Disk, impl.Reply, bool) {
	if !impl.HostOk(h) || !impl.DiskOk(d) {
		return impl.Host{}, impl.Disk{}, impl.Reply{}, false
	}
	if !h.Busy || !seesAPool(h, d) {
		return h, d, impl.Reply{}, false
	}
	p := &plainTurn{host: h, disk: d, next: cloneHost(h)}
	switch kind := h.Op.Kind; {
	case kind == impl.OpRecover:
		p.recover()
	case !h.Ready:
		p.says(impl.PlBusy, "")
	case kind > impl.OpRead:
		p.leaseCall()
	default:
		p.planned()
	}
	next := d
	for _, c := range p.calls {
		var refused int
		next, refused = c.call(next)
		if refused == impl.DkFenced {
			return downHost(h.Id), d, impl.Reply{}, false
		}
		if refused != impl.DkOk {
			return h, d, impl.Reply{}, false
		}
	}
	return p.next, next, p.reply, p.told
}

func wantPlainStep(t *testing.T, what string, h impl.Host, d impl.Disk) (impl.Host, impl.Disk, impl.Reply, bool) {
	t.Helper()
	host, disk, reply, told := plainStep(h, d)
	wantStep(t, what, h, d, host, disk, reply, told)
	return host, disk, reply, told
}

// stepLease is of a host under its epoch on the disk, or under one beside that, or nobody.
func stepLease(r *rand.Rand, epochs []int, id int) impl.Lease {
	if r.Intn(8) == 0 {
		return planNo
	}
	if r.Intn(2) == 0 {
		id = r.Intn(impl.MaxHosts)
	}
	epoch := epochs[id] + []int{0, 0, 0, 0, -1, 1}[r.Intn(6)]
	return impl.Lease{Host: id, Epoch: min(max(epoch, 1), impl.MaxEpoch)}
}

// stepText is a right text for that sector.
func stepText(r *rand.Rand, sector int, epochs []int, id int) string {
	switch {
	case sector < 3:
		return impl.ShowHost(impl.HostSec{Beat: r.Intn(9), Rec: stepLease(r, epochs, id)})
	case sector < 6 && r.Intn(3) > 0:
		return openText(1+r.Intn(impl.MaxTxn), randomOuts(r, 6*r.Intn(2), r.Intn(5))...)
	case sector < 9:
		return newText(sector, r.Intn(40))
	case sector < 13:
		v := randomSector(r, "v").(impl.VolSec)
		v.Lease = stepLease(r, epochs, id)
		return impl.ShowVol(v)
	case sector < 16:
		g := impl.GroupSec{Lease: stepLease(r, epochs, id), Refs: randomNumbers(r, impl.GBlocks, 0, 1+r.Intn(impl.MaxRef))}
		return impl.ShowGroup(g)
	}
	return randomText(r, impl.MaxBlock)
}

// randomStepDisk is mostly a right pool with few writes under way, of which many are that host's.
func randomStepDisk(r *rand.Rand, id int) impl.Disk {
	d := impl.Disk{Sectors: make([]string, impl.Sectors)}
	for range impl.MaxHosts {
		d.Epochs = append(d.Epochs, []int{1, 2, 3, 50, impl.MaxEpoch - 1, impl.MaxEpoch}[r.Intn(6)])
	}
	for sector := range d.Sectors {
		d.Sectors[sector] = stepText(r, sector, d.Epochs, id)
	}
	count := []int{0, 0, 1, 2, 5, impl.MaxPend - 4, impl.MaxPend - 1, impl.MaxPend}[r.Intn(8)]
	for range count {
		host, sector := r.Intn(impl.MaxHosts), r.Intn(impl.Sectors)
		d = underWay(d, host, impl.Out{Sector: sector, Text: stepText(r, sector, d.Epochs, id)})
	}
	if r.Intn(30) == 0 {
		d = underWay(landed(d, spoiling(r.Intn(impl.Sectors))), r.Intn(impl.MaxHosts), outOf(r.Intn(impl.Sectors), 1))
	}
	return d
}

// randomStepHost is right mostly; it has a call at any Pc, with any plan.
func randomStepHost(r *rand.Rand, id int, d impl.Disk) impl.Host {
	h := impl.Host{Id: id, Epoch: d.Epochs[id], Up: true, Ready: r.Intn(8) > 0, Txn: []int{0, 1, 500, impl.MaxTxn - 1, impl.MaxTxn}[r.Intn(5)]}
	if r.Intn(6) == 0 {
		h.Epoch = max(1, h.Epoch-1)
	}
	if r.Intn(40) == 0 {
		return h
	}
	ops := someOps([]int{1, 2, 3, 4, 5, 6, 7, 8, 9, 10, 11, 12, 12, 12}[r.Intn(14)])
	h.Busy, h.Op = true, ops[r.Intn(len(ops))]
	h.Pc = []int{0, r.Intn(3), r.Intn(9), r.Intn(15), r.Intn(impl.MaxPc + 1)}[r.Intn(5)]
	if h.Pc > 0 && r.Intn(10) > 0 {
		h.Plan = impl.Plan{Block: r.Intn(impl.Blocks+1) - 1, Text: randomText(r, impl.MaxBlock), Outs: randomOuts(r, 6, r.Intn(9))}
	}
	return h
}

func TestManyStepsAsSaid(t *testing.T) {
	t.Parallel()
	r := rand.New(rand.NewSource(800))
	met := map[string]int{}
	for range 15000 {
		id := r.Intn(impl.MaxHosts)
		d := randomStepDisk(r, id)
		h := randomStepHost(r, id, d)
		next, _, reply, told := wantPlainStep(t, "random", h, d)
		met[stepKind(h, next, reply, told)]++
		if t.Failed() {
			return
		}
	}
	for _, kind := range []string{"not right", "fallen", "as it is", "goes on", "12 goes on", "code 0", "code 1", "code 2", "code 3", "code 4", "code 5", "code 6", "12 code 0", "12 code 1", "12 code 5"} {
		if met[kind] < 20 {
			t.Errorf("%q was met %d times, of %v", kind, met[kind], met)
		}
	}
}

// stepKind names what came of a step, OpRecover by its number.
func stepKind(h impl.Host, next impl.Host, reply impl.Reply, told bool) string {
	kind := ""
	if h.Op.Kind == impl.OpRecover {
		kind = "12 "
	}
	switch {
	case !impl.HostOk(h):
		return "not right"
	case told:
		return fmt.Sprint(kind, "code ", reply.Code)
	case !next.Up:
		return "fallen"
	case sameHost(h, next):
		return "as it is"
	}
	return kind + "goes on"
}

// A stepWorld is three hosts on one disk, of which any does anything.
type stepWorld struct {
	hosts []impl.Host
	disk  impl.Disk
	told  int
	fell  int
}

func (w *stepWorld) act(t *testing.T, r *rand.Rand) {
	t.Helper()
	id := r.Intn(impl.MaxHosts)
	h := w.hosts[id]
	switch n := r.Intn(40); {
	case n == 0 && h.Up:
		w.hosts[id] = downHost(id)
	case !h.Up && n < 20:
		w.hosts[id], w.disk, _ = impl.HostRise(h, w.disk)
	case n < 6 && len(w.disk.Pend) > 0:
		w.disk, _ = impl.Land(w.disk, r.Intn(len(w.disk.Pend)))
	case !h.Busy && h.Up:
		ops := someOps([]int{1, 2, 3, 3, 3, 3, 4, 5, 6, 7, 8, 8, 8, 9, 10, 10, 10, 11, 12}[r.Intn(19)])
		w.hosts[id], _ = impl.HostCall(h, ops[r.Intn(len(ops))])
	default:
		w.step(t, r, id)
	}
}

// step takes some steps of a host, so that calls come to an end.
func (w *stepWorld) step(t *testing.T, r *rand.Rand, id int) {
	t.Helper()
	for range 1 + r.Intn(12) {
		h := w.hosts[id]
		next, disk, reply, told := wantPlainStep(t, "in a world", h, w.disk)
		if h.Up && !next.Up {
			w.fell++
		}
		if told && reply.Code == impl.PlOk {
			w.told++
		}
		w.hosts[id], w.disk = next, disk
	}
}

func (w *stepWorld) wantRight(t *testing.T) {
	t.Helper()
	if !impl.DiskOk(w.disk) || !impl.PoolOk(w.disk.Sectors) {
		t.Fatalf("the disk is not right: %s", diskInShort(w.disk))
	}
	for id, h := range w.hosts {
		if !impl.HostOk(h) || h.Id != id || h.Epoch > w.disk.Epochs[id] {
			t.Fatalf("host %d is %+v", id, h)
		}
	}
}

// wantCounted asks that each block, settled, is counted as often as it is held.
func (w *stepWorld) wantCounted(t *testing.T) {
	t.Helper()
	s := impl.Settle(w.disk.Sectors)
	p := &planPool{}
	for sector := 6; sector < 9; sector++ {
		frees, _ := impl.ReadFrees(s[sector])
		p.frees = append(p.frees, frees)
	}
	for sector := 9; sector < 13; sector++ {
		vol, _ := impl.ReadVol(s[sector])
		p.vols = append(p.vols, vol)
	}
	for sector := 13; sector < 16; sector++ {
		group, _ := impl.ReadGroup(s[sector])
		p.groups = append(p.groups, group)
	}
	if !p.countsAreRight() {
		t.Fatalf("the counts are wrong: %+v", p)
	}
}

func TestWorldsOfSteps(t *testing.T) {
	t.Parallel()
	r := rand.New(rand.NewSource(801))
	told, fell := 0, 0
	for range 80 {
		d := impl.Disk{Sectors: impl.Format(), Epochs: slices.Repeat([]int{1}, impl.MaxHosts)}
		w := &stepWorld{hosts: []impl.Host{downHost(0), downHost(1), downHost(2)}, disk: d}
		for range 250 {
			w.act(t, r)
			w.wantRight(t)
			if t.Failed() {
				return
			}
		}
		w.wantCounted(t)
		told += w.told
		fell += w.fell
	}
	if told < 1000 || fell < 25 {
		t.Errorf("%d calls were done, and %d hosts fell of a fence", told, fell)
	}
}
