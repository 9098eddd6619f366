package tests

import (
	"fmt"
	"math"
	"reflect"
	"slices"
	"strings"
	"testing"

	"loop.example/g00761/impl"
)

func tidyHost(h impl.Host) impl.Host {
	if len(h.Plan.Outs) == 0 {
		h.Plan.Outs = nil
	}
	return h
}

func sameHost(a impl.Host, b impl.Host) bool { return reflect.DeepEqual(tidyHost(a), tidyHost(b)) }

func cloneHost(h impl.Host) impl.Host {
	h.Plan.Outs = slices.Clone(h.Plan.Outs)
	return h
}

// roomyHost has marked spare room behind its Outs.
func roomyHost(h impl.Host) impl.Host {
	mark := impl.Out{Sector: -7, Text: "spare"}
	h.Plan.Outs = append(slices.Clone(h.Plan.Outs), mark, mark, mark)[:len(h.Plan.Outs)]
	return h
}

// hostRoom tells a host with all that stands in the room behind its Outs.
func hostRoom(h impl.Host) string {
	outs := h.Plan.Outs
	h.Plan.Outs = nil
	return fmt.Sprintf("%+v %d %#v", h, len(outs), outs[:cap(outs)])
}

func spoilHost(h impl.Host) { fill(h.Plan.Outs, impl.Out{Sector: -99, Text: "spoiled"}) }

// upHost waits for a call; in a view that is planView its lease is planMe.
func upHost() impl.Host { return impl.Host{Id: 1, Epoch: 2, Up: true, Ready: true, Txn: 41} }

func downHost(id int) impl.Host { return impl.Host{Id: id} }

// busyHost has that call at that Pc, with no plan.
func busyHost(o impl.Op, pc int) impl.Host {
	h := upHost()
	h.Busy, h.Op, h.Pc = true, o, pc
	return h
}

// writeOp is a call that has each part of a plan.
func writeOp() impl.Op { return impl.Op{Kind: impl.OpWrite, Vol: 0, At: 2, Text: "new"} }

// midHost has a call under way, and a plan.
func midHost(pc int) impl.Host {
	h := busyHost(writeOp(), pc)
	h.Plan = impl.Plan{Block: 3, Text: "new", Outs: []impl.Out{outOf(6, 1), outOf(9, 2), outOf(13, 3)}}
	return h
}

// midWith is a host with a call under way, and something other than there.
func midWith(change func(h *impl.Host)) impl.Host {
	h := midHost(5)
	change(&h)
	return h
}

type namedHost struct {
	what string
	host impl.Host
}

type hostList []namedHost

func (l *hostList) add(what string, h impl.Host, change func(h *impl.Host)) {
	h = cloneHost(h)
	change(&h)
	*l = append(*l, namedHost{what, h})
}

// eachHost are hosts in each of their states.
func eachHost() []impl.Host {
	out := []impl.Host{upHost(), midHost(1), midHost(5), midHost(8)}
	notReady := upHost()
	notReady.Ready = false
	out = append(out, notReady)
	for id := range impl.MaxHosts {
		out = append(out, downHost(id), impl.Host{Id: id, Epoch: 1, Up: true, Busy: true, Op: impl.Op{Kind: impl.OpRecover, Vol: id}})
	}
	for _, o := range eachKind() {
		for pc := range 10 {
			out = append(out, busyHost(o, pc))
		}
	}
	return out
}

func rightHosts() hostList {
	var l hostList
	for id := range impl.MaxHosts {
		l.add("down", downHost(id), func(h *impl.Host) {})
		for _, h := range []impl.Host{upHost(), midHost(5)} {
			l.add("Id", h, func(h *impl.Host) { h.Id = id })
			l.add("Epoch 1", h, func(h *impl.Host) { h.Id, h.Epoch = id, 1 })
			l.add("Epoch MaxEpoch", h, func(h *impl.Host) { h.Id, h.Epoch = id, impl.MaxEpoch })
			l.add("Txn 0", h, func(h *impl.Host) { h.Txn = 0 })
			l.add("Txn MaxTxn", h, func(h *impl.Host) { h.Txn = impl.MaxTxn })
			l.add("not Ready", h, func(h *impl.Host) { h.Ready = false })
		}
	}
	for _, h := range eachHost() {
		l.add("some state", h, func(h *impl.Host) {})
	}
	for pc := range impl.MaxPc + 1 {
		l.add("a Pc", busyHost(writeOp(), pc), func(h *impl.Host) {})
		l.add("Txn below MaxTxn", busyHost(writeOp(), pc), func(h *impl.Host) { h.Txn = impl.MaxTxn - 1 })
		if pc > 0 {
			l.add("a Pc with a plan", midHost(pc), func(h *impl.Host) {})
		}
		if pc < 1 || pc > 3 {
			l.add("Txn MaxTxn", busyHost(writeOp(), pc), func(h *impl.Host) { h.Txn = impl.MaxTxn })
		}
	}
	return append(l, rightPlans()...)
}

func rightPlans() hostList {
	var l hostList
	add := func(what string, change func(p *impl.Plan)) {
		l.add(what, midHost(5), func(h *impl.Host) { change(&h.Plan) })
	}
	for _, block := range []int{-1, 0, 1, impl.Blocks - 1} {
		add("a Block", func(p *impl.Plan) { p.Block = block })
	}
	for _, size := range []int{0, 1, impl.MaxBlock} {
		add("a Text", func(p *impl.Plan) { p.Text = strings.Repeat("t", size) })
	}
	for n := range impl.MaxOuts + 1 {
		add("Outs", func(p *impl.Plan) { p.Outs = lastOuts(n) })
		add("first Outs", func(p *impl.Plan) { p.Outs = windowOuts(0, n) })
	}
	add("no Outs", func(p *impl.Plan) { p.Outs = nil })
	add("an empty list of Outs", func(p *impl.Plan) { p.Outs = []impl.Out{} })
	for _, sector := range []int{0, impl.Sectors - 1} {
		for _, size := range []int{0, 60} {
			add("an Out", func(p *impl.Plan) {
				p.Outs = []impl.Out{{Sector: sector, Text: strings.Repeat("t", size)}}
			})
		}
	}
	add("no plan", func(p *impl.Plan) { *p = impl.Plan{} })
	return l
}

func wrongHosts() hostList {
	l := hostList{}
	for _, h := range []impl.Host{downHost(0), upHost(), midHost(5), busyHost(writeOp(), 0)} {
		for _, id := range []int{-1, impl.MaxHosts, math.MinInt, math.MaxInt} {
			l.add("an Id out of range", h, func(h *impl.Host) { h.Id = id })
		}
	}
	for _, h := range []impl.Host{upHost(), midHost(5), busyHost(writeOp(), 0)} {
		for _, epoch := range []int{0, -1, impl.MaxEpoch + 1, math.MinInt, math.MaxInt} {
			l.add("an Epoch out of range", h, func(h *impl.Host) { h.Epoch = epoch })
		}
		for _, txn := range []int{-1, impl.MaxTxn + 1, math.MinInt, math.MaxInt} {
			l.add("a Txn out of range", h, func(h *impl.Host) { h.Txn = txn })
		}
		l.add("it is not Up, and all else stays", h, func(h *impl.Host) { h.Up = false })
	}
	for _, pc := range []int{-1, impl.MaxPc + 1, math.MinInt, math.MaxInt} {
		l.add("a Pc out of range", midHost(5), func(h *impl.Host) { h.Pc = pc })
		l.add("a Pc out of range, no plan", busyHost(writeOp(), 0), func(h *impl.Host) { h.Pc = pc })
	}
	for pc := 1; pc <= 3; pc++ {
		l.add("Txn MaxTxn", midHost(pc), func(h *impl.Host) { h.Txn = impl.MaxTxn })
		for _, o := range eachKind() {
			l.add("Txn MaxTxn, no plan", busyHost(o, pc), func(h *impl.Host) { h.Txn = impl.MaxTxn })
		}
	}
	for _, o := range wrongCalls() {
		if !impl.OpOk(o) {
			l.add("a call that is not right", busyHost(o, 0), func(h *impl.Host) {})
			l.add("a call that is not right, with a plan", midHost(5), func(h *impl.Host) { h.Op = o })
		}
	}
	l = append(l, wrongIdle()...)
	return append(l, wrongHostPlans()...)
}

// somePlans are plans of which none is the zero one, each by one part alone.
func somePlans() []impl.Plan {
	return []impl.Plan{
		{Block: -1}, {Block: 1}, {Text: "t"}, {Text: "\x00"}, {Outs: []impl.Out{outOf(9, 1)}}, {Outs: []impl.Out{{}}},
	}
}

// wrongIdle are hosts that have something that one without a call, or one that is down, may not have.
func wrongIdle() hostList {
	var l hostList
	for _, h := range []impl.Host{downHost(0), downHost(2), upHost()} {
		for _, o := range []impl.Op{{Kind: 1}, {Vol: 1}, {To: 1}, {At: 1}, {Text: "t"}, {Kind: -1}, {Kind: impl.OpDrain}} {
			l.add("Op is not zero", h, func(h *impl.Host) { h.Op = o })
		}
		for _, pc := range []int{1, -1, 5} {
			l.add("Pc is not zero", h, func(h *impl.Host) { h.Pc = pc })
		}
		for _, p := range append(somePlans(), impl.Plan{Code: 1}, impl.Plan{Code: -1}) {
			l.add("Plan is not zero", h, func(h *impl.Host) { h.Plan = p })
		}
	}
	for id := range impl.MaxHosts {
		l.add("it is not Up, and Ready", downHost(id), func(h *impl.Host) { h.Ready = true })
		l.add("it is not Up, and Busy", downHost(id), func(h *impl.Host) { h.Busy = true })
		l.add("it is not Up, and Busy with a call", downHost(id), func(h *impl.Host) { h.Busy, h.Op = true, writeOp() })
		for _, n := range []int{1, -1} {
			l.add("it is not Up, and Epoch is not zero", downHost(id), func(h *impl.Host) { h.Epoch = n })
			l.add("it is not Up, and Txn is not zero", downHost(id), func(h *impl.Host) { h.Txn = n })
		}
	}
	for _, p := range append(somePlans(), impl.Plan{Code: 1}) {
		l.add("Pc is 0, and Plan is not zero", busyHost(writeOp(), 0), func(h *impl.Host) { h.Plan = p })
	}
	return l
}

func wrongHostPlans() hostList {
	var l hostList
	add := func(what string, change func(p *impl.Plan)) {
		for _, pc := range []int{1, 5, impl.MaxPc} {
			l.add(what, midHost(pc), func(h *impl.Host) { change(&h.Plan) })
		}
	}
	for _, code := range []int{-1, 1, 6, 7} {
		add("a Code that is not PlOk", func(p *impl.Plan) { p.Code = code })
	}
	for _, block := range []int{-2, impl.Blocks, math.MinInt, math.MaxInt} {
		add("a Block out of range", func(p *impl.Plan) { p.Block = block })
	}
	add("a Text too long", func(p *impl.Plan) { p.Text = strings.Repeat("t", impl.MaxBlock+1) })
	add("too many Outs", func(p *impl.Plan) { p.Outs = windowOuts(0, impl.MaxOuts+1) })
	add("far too many Outs", func(p *impl.Plan) { p.Outs = windowOuts(0, impl.Sectors) })
	for i := range 3 {
		add("an Out's Text too long", func(p *impl.Plan) { p.Outs[i].Text = strings.Repeat("t", 61) })
	}
	add("two Outs alike", func(p *impl.Plan) { p.Outs[1] = p.Outs[0] })
	add("two Outs of one Sector", func(p *impl.Plan) { p.Outs[2].Sector = p.Outs[1].Sector })
	add("the first two Outs fall", func(p *impl.Plan) { p.Outs[0], p.Outs[1] = p.Outs[1], p.Outs[0] })
	add("the last two Outs fall", func(p *impl.Plan) { p.Outs[1], p.Outs[2] = p.Outs[2], p.Outs[1] })
	for _, sector := range []int{-1, math.MinInt} {
		add("a Sector below 0", func(p *impl.Plan) { p.Outs[0].Sector = sector })
	}
	for _, sector := range []int{impl.Sectors, impl.MaxSectors, math.MaxInt} {
		add("a Sector past the end", func(p *impl.Plan) { p.Outs[2].Sector = sector })
	}
	return l
}

func wantHostOk(t *testing.T, what string, h impl.Host, want bool) {
	t.Helper()
	room := roomyHost(h)
	before := hostRoom(room)
	if got := impl.HostOk(room); got != want {
		t.Errorf("%s: HostOk is %v of %+v", what, got, h)
	}
	if hostRoom(room) != before {
		t.Errorf("%s: HostOk changed its host, or the room behind it", what)
	}
}

func TestHostLimits(t *testing.T) {
	if impl.MaxPc != 20 {
		t.Error("MaxPc", impl.MaxPc)
	}
}

func TestHostOk(t *testing.T) {
	for _, right := range rightHosts() {
		wantHostOk(t, right.what, right.host, true)
	}
	for _, wrong := range wrongHosts() {
		wantHostOk(t, wrong.what, wrong.host, false)
	}
	wantHostOk(t, "the zero one is host 0, down", impl.Host{}, true)
}

// callOf asks twice, that the host and the room behind it stay, and that nothing is shared.
func callOf(t *testing.T, what string, h impl.Host, o impl.Op) (impl.Host, bool) {
	t.Helper()
	room := roomyHost(h)
	before := hostRoom(room)
	first, done := impl.HostCall(room, o)
	second, again := impl.HostCall(room, o)
	if hostRoom(room) != before {
		t.Errorf("%s: HostCall changed its host, or the room behind it", what)
	}
	if !sameHost(first, second) || done != again {
		t.Errorf("%s: two answers are %+v %v and %+v %v", what, first, done, second, again)
	}
	kept := cloneHost(first)
	spoilHost(second)
	if !sameHost(first, kept) || hostRoom(room) != before {
		t.Errorf("%s: an answer of HostCall shares memory", what)
	}
	return kept, done
}

func wantHostCall(t *testing.T, what string, h impl.Host, o impl.Op, want impl.Host, wantDone bool) {
	t.Helper()
	got, done := callOf(t, what, h, o)
	if !sameHost(got, want) || done != wantDone {
		t.Errorf("%s: HostCall of %+v on %+v is %+v %v, not %+v %v", what, o, h, got, done, want, wantDone)
	}
	if impl.HostOk(h) {
		wantHostOk(t, what+", behind it", got, true)
	}
}

func TestHostCallIsTaken(t *testing.T) {
	for _, ready := range []bool{true, false} {
		for _, txn := range []int{0, 41, impl.MaxTxn} {
			for id := range impl.MaxHosts {
				for _, o := range eachKind() {
					h := impl.Host{Id: id, Epoch: 3, Up: true, Ready: ready, Txn: txn}
					want := h
					want.Busy, want.Op = true, o
					if o.Kind == impl.OpRecover && o.Vol == id {
						wantHostCall(t, "an OpRecover of itself", h, o, h, false)
						continue
					}
					wantHostCall(t, "a call", h, o, want, true)
				}
			}
		}
	}
}

func TestHostCallIsNotTaken(t *testing.T) {
	ops := append(eachKind()[:40], impl.Op{Kind: impl.OpRecover}, impl.Op{Kind: impl.OpRecover, Vol: 2}, impl.Op{Kind: impl.OpDrain})
	for id := range impl.MaxHosts {
		for _, o := range ops {
			wantHostCall(t, "it is not Up", downHost(id), o, downHost(id), false)
		}
	}
	for _, h := range []impl.Host{midHost(1), midHost(8), busyHost(writeOp(), 0), busyHost(impl.Op{Kind: impl.OpRecover, Vol: 2}, 7)} {
		for _, o := range append(ops, h.Op) {
			wantHostCall(t, "it is Busy", h, o, h, false)
		}
	}
	for _, o := range wrongCalls() {
		if !impl.OpOk(o) {
			wantHostCall(t, "a call that is not right", upHost(), o, upHost(), false)
			wantHostCall(t, "a call that is not right, and it is Busy", midHost(5), o, midHost(5), false)
			wantHostCall(t, "a call that is not right, and it is not Up", downHost(1), o, downHost(1), false)
		}
	}
}

func TestHostCallOfHostsThatAreNotRight(t *testing.T) {
	for _, wrong := range wrongHosts() {
		for _, o := range []impl.Op{{}, writeOp(), {Kind: impl.OpDrain}, {Kind: impl.OpRecover}, {Kind: impl.OpRecover, Vol: 2}} {
			wantHostCall(t, wrong.what, wrong.host, o, impl.Host{}, false)
		}
	}
}

// riseOf asks twice, that host and disk and the room behind them stay, and that nothing is shared.
func riseOf(t *testing.T, what string, h impl.Host, d impl.Disk) (impl.Host, impl.Disk, bool) {
	t.Helper()
	var done bool
	host, disk := hostAndDisk(t, what, h, d, func(h impl.Host, d impl.Disk) (impl.Host, impl.Disk, string) {
		host, disk, up := impl.HostRise(h, d)
		done = up
		return host, disk, fmt.Sprint(up)
	})
	return host, disk, done
}

// hostAndDisk asks twice what makes a host and a disk of these, that these and the room behind them stay,
// and that no answer shares memory; what is told besides must be the same.
func hostAndDisk(t *testing.T, what string, h impl.Host, d impl.Disk, ask func(h impl.Host, d impl.Disk) (impl.Host, impl.Disk, string)) (impl.Host, impl.Disk) {
	t.Helper()
	host, disk := roomyHost(h), roomy(d)
	hostBefore, diskBefore := hostRoom(host), cloneDisk(withRoom(disk))
	stays := func(why string) {
		t.Helper()
		if hostRoom(host) != hostBefore {
			t.Errorf("%s: the host, or the room behind it: %s", what, why)
		}
		wantDisk(t, what+": "+why, withRoom(disk), diskBefore)
	}
	firstHost, firstDisk, first := ask(host, disk)
	secondHost, secondDisk, second := ask(host, disk)
	stays("it was changed")
	if !sameHost(firstHost, secondHost) || !sameDisk(firstDisk, secondDisk) || first != second {
		t.Errorf("%s: two answers are %+v %s %s and %+v %s %s", what, firstHost, diskInShort(firstDisk), first, secondHost, diskInShort(secondDisk), second)
	}
	keptHost, keptDisk := cloneHost(firstHost), cloneDisk(firstDisk)
	spoilHost(secondHost)
	spoilDisk(secondDisk)
	stays("it shares memory with an answer")
	spoilHost(host)
	spoilDisk(disk)
	if !sameHost(firstHost, keptHost) || !sameDisk(firstDisk, keptDisk) {
		t.Errorf("%s: an answer shares memory with another one, or with what was handed in", what)
	}
	return keptHost, keptDisk
}

func wantRise(t *testing.T, what string, h impl.Host, d impl.Disk, wantHost impl.Host, want impl.Disk, wantDone bool) {
	t.Helper()
	host, disk, done := riseOf(t, what, h, d)
	if done != wantDone || !sameHost(host, wantHost) {
		t.Errorf("%s: HostRise of %+v is %+v %v, not %+v %v", what, h, host, done, wantHost, wantDone)
	}
	wantDisk(t, what, disk, want)
}

// risen is that host with its epoch, at the begin of its OpRecover.
func risen(id int, epoch int) impl.Host {
	return impl.Host{Id: id, Epoch: epoch, Up: true, Busy: true, Op: impl.Op{Kind: impl.OpRecover, Vol: id}}
}

func TestHostRise(t *testing.T) {
	before := busyDisk()
	want := cloneDisk(before)
	want.Epochs[0], want.Pend = 5, without(before.Pend, 0, 2, 3)
	wantRise(t, "host 0", downHost(0), before, risen(0, 5), want, true)
	want = cloneDisk(before)
	want.Epochs[1], want.Pend = 2, without(before.Pend, 1, 5)
	wantRise(t, "host 1", downHost(1), before, risen(1, 2), want, true)
	wantRise(t, "host 2 is at MaxEpoch", downHost(2), before, downHost(2), before, false)
	below := cloneDisk(before)
	below.Epochs[2], below.Pend = impl.MaxEpoch-1, without(before.Pend, 4)
	want = cloneDisk(below)
	want.Epochs[2] = impl.MaxEpoch
	wantRise(t, "host 2 comes to MaxEpoch", downHost(2), below, risen(2, impl.MaxEpoch), want, true)
}

func TestHostRiseOnEachRightDisk(t *testing.T) {
	one := newDisk(t, 1)
	for id := range impl.MaxHosts {
		want := cloneDisk(one)
		want.Epochs[id] = 2
		wantRise(t, "a disk of one sector", downHost(id), one, risen(id, 2), want, true)
	}
	full := fullDisk()
	for _, id := range []int{0, 2} {
		want := cloneDisk(full)
		want.Epochs[id]++
		want.Pend = slices.DeleteFunc(want.Pend, func(w impl.Write) bool { return w.Host == id })
		wantRise(t, "a full disk", downHost(id), full, risen(id, full.Epochs[id]+1), want, true)
	}
}

func TestHostRiseWhereItIsUp(t *testing.T) {
	for _, d := range []impl.Disk{busyDisk(), fullDisk(), newDisk(t, impl.Sectors)} {
		for _, h := range eachHost() {
			if h.Up {
				wantRise(t, "it is Up", h, d, h, d, false)
			}
		}
	}
}

func TestHostRiseOfWhatIsNotRight(t *testing.T) {
	for _, wrong := range wrongHosts() {
		wantRise(t, wrong.what, wrong.host, busyDisk(), impl.Host{}, impl.Disk{}, false)
		wantRise(t, wrong.what+", the zero disk", wrong.host, impl.Disk{}, impl.Host{}, impl.Disk{}, false)
	}
	for _, wrong := range wrongDisks() {
		for _, h := range []impl.Host{downHost(0), downHost(1), downHost(2), upHost(), midHost(5)} {
			wantRise(t, wrong.what, h, wrong.d, impl.Host{}, impl.Disk{}, false)
		}
	}
}
