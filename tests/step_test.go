package tests

import (
	"fmt"
	"slices"
	"testing"

	"loop.example/g00761/impl"
)

// The leases of a stepDisk that are under the epoch there, besides planMe and planOther, and one that is not.
var (
	stepThird    = impl.Lease{Host: 2, Epoch: 7}
	stepOldThird = impl.Lease{Host: 2, Epoch: 6}
)

// stepDisk has planView on it, host 1 being the one that steps; no Journal is open, and nothing is under way.
func stepDisk() impl.Disk { return diskOf(planView(), []int{2, 2, 7}) }

func diskOf(v impl.View, epochs []int) impl.Disk {
	s := donePool()
	for i, sec := range v.Vols {
		s[9+i] = impl.ShowVol(sec)
	}
	for i, sec := range v.Groups {
		s[13+i] = impl.ShowGroup(sec)
	}
	s[6+v.Me.Host] = impl.ShowFrees(v.Frees)
	return impl.Disk{Sectors: s, Epochs: slices.Clone(epochs)}
}

// stepWith is a stepDisk with some sectors other than there.
func stepWith(outs ...impl.Out) impl.Disk {
	d := stepDisk()
	d.Sectors = changed(d.Sectors, outs...)
	return d
}

// recOut is a host's sector with this Rec.
func recOut(host int, rec impl.Lease) impl.Out {
	text, _ := plainShow("h", impl.HostSec{Beat: 300 + host, Rec: rec})
	return impl.Out{Sector: host, Text: text}
}

// leaseOut is a volume's or a group's sector with this Lease.
func leaseOut(sector int, lease impl.Lease) impl.Out {
	v := planView()
	if sector < 13 {
		v.Vols[sector-9].Lease = lease
		return impl.Out{Sector: sector, Text: impl.ShowVol(v.Vols[sector-9])}
	}
	v.Groups[sector-13].Lease = lease
	return impl.Out{Sector: sector, Text: impl.ShowGroup(v.Groups[sector-13])}
}

// underWay is the disk with these writes of the host under way too.
func underWay(d impl.Disk, host int, outs ...impl.Out) impl.Disk {
	d = cloneDisk(d)
	for _, out := range outs {
		d.Pend = append(d.Pend, impl.Write{Host: host, Epoch: d.Epochs[host], Sector: out.Sector, Text: out.Text})
	}
	return d
}

// landed is the disk with these texts in its sectors.
func landed(d impl.Disk, outs ...impl.Out) impl.Disk {
	d = cloneDisk(d)
	d.Sectors = changed(d.Sectors, outs...)
	return d
}

// withEpoch is the disk with another epoch of the host, whose writes are gone.
func withEpoch(d impl.Disk, host int, epoch int) impl.Disk {
	d = cloneDisk(d)
	d.Epochs[host] = epoch
	d.Pend = slices.DeleteFunc(d.Pend, func(w impl.Write) bool { return w.Host == host })
	return d
}

// crowded is the disk with writes of host 0 to a block under way until just so many more fit.
func crowded(d impl.Disk, left int) impl.Disk {
	for len(d.Pend) < impl.MaxPend-left {
		d = underWay(d, 0, blockOut(17, "crowd"))
	}
	return d
}

// stepped asks twice, that nothing handed in is changed, that nothing is shared, and what the promise says of each step.
func stepped(t *testing.T, what string, h impl.Host, d impl.Disk) (impl.Host, impl.Disk, impl.Reply, bool) {
	t.Helper()
	var reply impl.Reply
	var told bool
	host, disk := hostAndDisk(t, what, h, d, func(h impl.Host, d impl.Disk) (impl.Host, impl.Disk, string) {
		nextHost, nextDisk, r, ok := impl.HostStep(h, d)
		reply, told = r, ok
		return nextHost, nextDisk, fmt.Sprintf("%+v %v", r, ok)
	})
	wantKept(t, what, h, d, host, disk)
	if told && (host.Busy || !host.Up || reply.Host != h.Id || reply.Op != h.Op || reply.At != 0 || reply.Code < 0 || reply.Code > impl.PlFull) {
		t.Errorf("%s: %+v is asked %+v, and replies %+v, being %+v", what, h, h.Op, reply, host)
	}
	if !told && reply != (impl.Reply{}) {
		t.Errorf("%s: no reply is %+v", what, reply)
	}
	return host, disk, reply, told
}

// wantKept asks that a right host and a right disk stay right, and that one that is fenced writes nothing.
// At one place the chapter's words leave a host that is not right: its OpRecover goes on to Pc 1 at Txn MaxTxn.
func wantKept(t *testing.T, what string, h impl.Host, d impl.Disk, host impl.Host, disk impl.Disk) {
	t.Helper()
	if !impl.HostOk(h) || !impl.DiskOk(d) {
		return
	}
	edge := h.Busy && h.Op.Kind == impl.OpRecover && h.Pc == 0 && h.Txn == impl.MaxTxn
	if !impl.HostOk(host) && !edge {
		t.Errorf("%s: a step of %+v leaves a host that is not right: %+v", what, h, host)
	}
	if !impl.DiskOk(disk) {
		t.Errorf("%s: a step of %+v leaves a disk that is not right: %s", what, h, diskInShort(disk))
	}
	if h.Up && h.Epoch != d.Epochs[h.Id] {
		if !slices.Equal(disk.Sectors, d.Sectors) {
			t.Errorf("%s: one that is fenced wrote a sector", what)
		}
		for _, w := range disk.Pend {
			if !slices.Contains(d.Pend, w) {
				t.Errorf("%s: one that is fenced put %+v", what, w)
			}
		}
	}
}

func wantStep(t *testing.T, what string, h impl.Host, d impl.Disk, wantHost impl.Host, want impl.Disk, wantReply impl.Reply, wantTold bool) {
	t.Helper()
	host, disk, reply, told := stepped(t, what, h, d)
	if !sameHost(host, wantHost) {
		t.Errorf("%s: %+v is %+v behind its step, not %+v", what, h, host, wantHost)
	}
	if reply != wantReply || told != wantTold {
		t.Errorf("%s: %+v tells %+v %v, not %+v %v", what, h, reply, told, wantReply, wantTold)
	}
	if !sameDisk(disk, want) {
		t.Errorf("%s: behind the step of %+v the disk is another one: %s", what, h, diskInShort(disk))
		wantSectors(t, what, disk.Sectors, want.Sectors)
	}
}

// wantOn asks for a step that goes on; change makes the host what it is besides Pc.
func wantOn(t *testing.T, what string, h impl.Host, d impl.Disk, want impl.Disk, change func(h *impl.Host)) {
	t.Helper()
	next := cloneHost(h)
	next.Pc++
	if change != nil {
		change(&next)
	}
	wantStep(t, what, h, d, next, want, impl.Reply{}, false)
}

// wantAnswer asks for a reply; change makes the host what it is besides having no call.
func wantAnswer(t *testing.T, what string, h impl.Host, d impl.Disk, want impl.Disk, code int, data string, change func(h *impl.Host)) {
	t.Helper()
	next := h
	next.Busy, next.Op, next.Pc, next.Plan = false, impl.Op{}, 0, impl.Plan{}
	if change != nil {
		change(&next)
	}
	wantStep(t, what, h, d, next, want, impl.Reply{Host: h.Id, Op: h.Op, Code: code, Data: data}, true)
}

func wantAsItIs(t *testing.T, what string, h impl.Host, d impl.Disk) {
	t.Helper()
	wantStep(t, what, h, d, h, d, impl.Reply{}, false)
}

func wantFalls(t *testing.T, what string, h impl.Host, d impl.Disk) {
	t.Helper()
	wantStep(t, what, h, d, downHost(h.Id), d, impl.Reply{}, false)
}

func recoverHost(x int, pc int) impl.Host {
	return busyHost(impl.Op{Kind: impl.OpRecover, Vol: x}, pc)
}

// unready is the host before its own OpRecover.
func unready(h impl.Host) impl.Host {
	h.Ready, h.Txn = false, 0
	return h
}

func TestStepWhereThereIsNoCall(t *testing.T) {
	for _, d := range []impl.Disk{stepDisk(), busyDisk(), fullDisk(), newDisk(t, impl.Sectors), underWay(stepDisk(), 1, blockOut(3, "b"))} {
		for id := range impl.MaxHosts {
			wantAsItIs(t, "it is not Up", downHost(id), d)
			h := upHost()
			h.Id = id
			wantAsItIs(t, "it is not Busy", h, d)
			wantAsItIs(t, "it is not Busy and not Ready", unready(h), d)
			h.Epoch = 99
			wantAsItIs(t, "it is not Busy, and fenced", h, d)
		}
	}
}

// busyHosts have a call, of each kind and at many a Pc.
func busyHosts() []impl.Host {
	out := []impl.Host{midHost(1), midHost(3), midHost(5), midHost(8), unready(busyHost(writeOp(), 0))}
	for x := range impl.MaxHosts {
		for _, pc := range []int{0, 1, 2, 3, 6, 13, 14} {
			out = append(out, recoverHost(x, pc))
		}
	}
	for _, k := range callKinds() {
		out = append(out, busyHost(firstCall(k), 0), busyHost(firstCall(k), 20))
	}
	return out
}

func TestStepWhereThereIsNoPool(t *testing.T) {
	for _, broken := range brokenPools(stepDisk().Sectors) {
		d := impl.Disk{Sectors: broken.sectors, Epochs: []int{2, 2, 7}}
		if !impl.DiskOk(d) {
			continue
		}
		for _, h := range busyHosts() {
			wantAsItIs(t, broken.what, h, d)
		}
	}
	for _, n := range []int{1, impl.Sectors - 1, impl.Sectors, impl.MaxSectors} {
		for _, h := range busyHosts() {
			wantAsItIs(t, fmt.Sprint("a new disk of ", n), h, newDisk(t, n))
		}
	}
}

func TestStepWhereTheHostSeesNoPool(t *testing.T) {
	for sector := range impl.Sectors {
		spoils := underWay(stepDisk(), 1, spoiling(sector))
		others := underWay(stepDisk(), 2, spoiling(sector))
		mended := underWay(spoils, 1, impl.Out{Sector: sector, Text: stepDisk().Sectors[sector]})
		spoilt := underWay(landed(stepDisk(), spoiling(sector)), 1, impl.Out{Sector: sector, Text: stepDisk().Sectors[sector]})
		for _, h := range busyHosts() {
			wantAsItIs(t, "its own write under way is no sector", h, spoils)
			wantAsItIs(t, "its write under way mends what is no sector", h, spoilt)
		}
		read := busyHost(impl.Op{Kind: impl.OpRead, Vol: 0, At: 2}, 0)
		wantAnswer(t, "the write under way is another host's", read, others, others, impl.PlOk, "", nil)
		wantAnswer(t, "its last write under way counts", read, mended, mended, impl.PlOk, "", nil)
	}
}

func TestStepOfWhatIsNotRight(t *testing.T) {
	zero := func(what string, h impl.Host, d impl.Disk) {
		t.Helper()
		wantStep(t, what, h, d, impl.Host{}, impl.Disk{}, impl.Reply{}, false)
	}
	for _, wrong := range wrongHosts() {
		zero(wrong.what, wrong.host, stepDisk())
		zero(wrong.what+", the zero disk", wrong.host, impl.Disk{})
	}
	hosts := append(busyHosts()[:8], downHost(0), downHost(2), upHost())
	for _, wrong := range wrongDisks() {
		for _, h := range hosts {
			zero(wrong.what, h, wrong.d)
		}
	}
	for _, pend := range []impl.Write{{Host: 3, Epoch: 2}, {Host: 1, Epoch: 1}, {Host: 1, Epoch: 2, Sector: impl.Sectors}, {Host: 1, Epoch: 2, Sector: -1}} {
		d := stepDisk()
		d.Pend = []impl.Write{pend}
		for _, h := range hosts {
			zero("a write under way is not right", h, d)
		}
	}
}

// refusals asks for what comes of a step of host 1 that swaps, flushes or puts, where the disk refuses it.
// puts is how many Puts it has; swaps the sector that it swaps, or -1.
func refusals(t *testing.T, what string, h impl.Host, d impl.Disk, puts int, swaps int) {
	t.Helper()
	// No lease of the tests is under one of these: it would be of a host that is not fenced.
	for _, epoch := range []int{h.Epoch + 3, impl.MaxEpoch - 1} {
		fenced := withEpoch(d, 1, epoch)
		wantFalls(t, what+", fenced", h, fenced)
		wantFalls(t, what+", fenced, and the disk is full", h, crowded(fenced, 0))
	}
	for left := range puts {
		wantAsItIs(t, fmt.Sprint(what, ", ", left, " more writes fit"), h, crowded(d, left))
	}
	if swaps >= 0 {
		seen, _ := impl.Peek(d, 1, swaps)
		busy := underWay(d, 1, impl.Out{Sector: swaps, Text: seen})
		wantAsItIs(t, what+", its own write to it is under way", h, busy)
	}
}

// goesOnUnlessRefused asks for a step that goes on, also on a disk with as little room as it needs, and for its refusals.
func goesOnUnlessRefused(t *testing.T, what string, h impl.Host, d impl.Disk, puts []impl.Out, swaps []impl.Out, change func(h *impl.Host)) {
	t.Helper()
	after := func(d impl.Disk) impl.Disk { return underWay(landed(d, swaps...), 1, puts...) }
	wantOn(t, what, h, d, after(d), change)
	tight := crowded(d, len(puts))
	wantOn(t, what+", where just so many fit", h, tight, after(tight), change)
	sector := -1
	if len(swaps) > 0 {
		sector = swaps[0].Sector
	}
	refusals(t, what, h, d, len(puts), sector)
}

// touchesNothing asks for a step that goes on and asks nothing of the disk, so that this has nothing to refuse.
func touchesNothing(t *testing.T, what string, h impl.Host, d impl.Disk) {
	t.Helper()
	for _, disk := range []impl.Disk{d, crowded(d, 0), withEpoch(d, 1, 3), withEpoch(d, 1, impl.MaxEpoch)} {
		wantOn(t, what, h, disk, disk, nil)
	}
}
