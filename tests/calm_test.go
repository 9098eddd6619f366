package tests

import (
	"fmt"
	"math"
	"slices"
	"testing"

	"loop.example/g00761/impl"
)

// calmOf asks twice, that nothing handed in is changed, and that nothing is shared.
func calmOf(t *testing.T, what string, w impl.World, rounds int) impl.World {
	t.Helper()
	return worldApart(t, fmt.Sprint(what, ", ", rounds, " rounds"), w, func(w impl.World) (impl.World, string) {
		return impl.Calm(w, rounds), ""
	})
}

func wantCalm(t *testing.T, what string, w impl.World, rounds int, want impl.World) {
	t.Helper()
	wantWorld(t, fmt.Sprint(what, ", ", rounds, " rounds"), calmOf(t, what, w, rounds), want)
}

// wantCalmed asks for one round that leads to a settled world, in which more rounds change nothing.
func wantCalmed(t *testing.T, what string, w impl.World, want impl.World) {
	t.Helper()
	wantSettled(t, what+", behind it", want, true)
	for _, rounds := range []int{1, 2, impl.CalmNeeds} {
		wantCalm(t, what, w, rounds, want)
	}
}

// recovered is what an OpRecover makes of its host's sectors, as one big step.
func recovered(s []string, host int, epoch int) []string {
	journal, _ := impl.ReadJournal(s[3+host])
	if !journal.Done {
		s = changed(s, append(journal.Outs, doneOf(host, journal.Txn))...)
	}
	s = slices.Clone(s)
	for sector := 9; sector < 16; sector++ {
		vol, isVol := impl.ReadVol(s[sector])
		group, isGroup := impl.ReadGroup(s[sector])
		switch {
		case isVol && vol.Lease.Host == host && vol.Lease.Epoch != epoch:
			vol.Lease = planNo
			s[sector] = impl.ShowVol(vol)
		case isGroup && group.Lease.Host == host && group.Lease.Epoch != epoch:
			group.Lease = planNo
			s[sector] = impl.ShowGroup(group)
		}
	}
	sec, _ := impl.ReadHost(s[host])
	s[host] = impl.ShowHost(impl.HostSec{Beat: sec.Beat, Rec: planNo})
	return s
}

// rested is the world in which the host has recovered itself, and was told so.
func rested(w impl.World, host int) impl.World {
	w = cloneWorld(w)
	w.Disk.Sectors = recovered(w.Disk.Sectors, host, w.Disk.Epochs[host])
	journal, _ := impl.ReadJournal(w.Disk.Sectors[3+host])
	w.Hosts[host] = impl.Host{Id: host, Epoch: w.Disk.Epochs[host], Up: true, Ready: true, Txn: journal.Txn}
	w.Replies = append(w.Replies, impl.Reply{Host: host, Op: impl.Op{Kind: impl.OpRecover, Vol: host}, At: len(w.Log)})
	return w
}

// roused is the world in which the host has risen besides.
func roused(w impl.World, host int) impl.World {
	w = cloneWorld(w)
	w.Disk = withEpoch(w.Disk, host, w.Disk.Epochs[host]+1)
	return rested(w, host)
}

func TestCalmLimits(t *testing.T) {
	if limits := []int{impl.MaxCalm, impl.MaxTurns, impl.CalmNeeds}; !slices.Equal(limits, []int{12, 60, 6}) {
		t.Error("limits", limits)
	}
}

func someRounds() []int {
	return []int{math.MinInt, -1, 0, 1, 2, impl.CalmNeeds, impl.MaxCalm - 1, impl.MaxCalm, impl.MaxCalm + 1, math.MaxInt}
}

func TestCalmWhereTheWorldIsNotRight(t *testing.T) {
	for i, wrong := range wrongWorlds() {
		for _, rounds := range someRounds() {
			if got := impl.Calm(wrong.world, rounds); !sameWorld(got, impl.World{}) {
				t.Errorf("%s: Calm of %d rounds is not the zero World", wrong.what, rounds)
			}
		}
		if i%20 == 0 {
			wantCalm(t, wrong.what, wrong.world, i%3, impl.World{})
		}
	}
	for _, rounds := range someRounds() {
		wantCalm(t, "the zero World", impl.World{}, rounds, impl.World{})
	}
}

// Where there is no round there is no look either.
func TestCalmOfNoRound(t *testing.T) {
	for _, w := range append(unseenWorlds(), impl.NewWorld(), upWorld(), lostWorld(), fullWorld()) {
		for _, rounds := range []int{math.MinInt, -100, -2, -1, 0} {
			wantCalm(t, "no round", w, rounds, w)
		}
	}
	for _, right := range rightWorlds() {
		if got := impl.Calm(right.world, -1); !sameWorld(got, right.world) {
			t.Errorf("%s: no round makes it another world", right.what)
		}
	}
}

// stuckWorld comes to no end: host 1, which is up, has said that it recovers host 0, and has no such call any more.
func stuckWorld() impl.World {
	w := upWorld()
	w.Disk = landed(w.Disk, recOut(0, planMe))
	w.Hosts[0].Ready = false
	return w
}

func TestCalmCountsItsRounds(t *testing.T) {
	w := stuckWorld()
	for _, rounds := range []int{1, 2, 3, 5, impl.CalmNeeds, 11, impl.MaxCalm, impl.MaxCalm + 1, 100, math.MaxInt} {
		want := cloneWorld(w)
		for range min(rounds, 12) {
			want.Replies = append(want.Replies, impl.Reply{Op: impl.Op{Kind: impl.OpRecover}, Code: impl.PlBusy, At: 3})
		}
		wantCalm(t, "one reply a round", w, rounds, want)
		wantSettled(t, "one reply a round", want, false)
		if t.Failed() {
			return
		}
	}
}

func TestCalmOfANewWorld(t *testing.T) {
	wantCalmed(t, "a new world", impl.NewWorld(), calmedWorld())
	wantCalm(t, "a new world", impl.NewWorld(), impl.MaxCalm, calmedWorld())
	wantCalm(t, "a new world", impl.NewWorld(), impl.MaxCalm+1, calmedWorld())
	for _, rounds := range []int{-1, 0} {
		wantCalm(t, "a new world", impl.NewWorld(), rounds, impl.NewWorld())
	}
}

// What is settled stays, whatever the number of rounds.
func TestCalmOfWhatIsSettled(t *testing.T) {
	for i, w := range settledWorlds() {
		for _, rounds := range someRounds() {
			wantCalm(t, fmt.Sprint("settled world ", i), w, rounds, w)
		}
	}
}

func TestCalmOfAHostThatIsNotUp(t *testing.T) {
	for host := range impl.MaxHosts {
		w := upWorld()
		w.Hosts[host] = downHost(host)
		wantCalmed(t, fmt.Sprint("host ", host, " is not up"), w, roused(w, host))
		w.Disk = underWay(w.Disk, host, blockOut(0, "lost"), journalOf(host, 900, outOf(9, 1)), blockOut(0, "lost too"))
		wantCalmed(t, fmt.Sprint("host ", host, " left writes under way"), w, roused(w, host))
		w.Disk = landed(w.Disk, recOut(host, planOther), recOut((host+1)%3, planNo))
		if host != 0 {
			continue
		}
		wantCalmed(t, "it was recovering itself when it fell", w, roused(w, host))
	}
	all := roused(roused(roused(downWorld(), 0), 1), 2)
	wantCalmed(t, "nobody is up", downWorld(), all)
}

// outdated has that host Up, with an older epoch than on the disk.
func outdated(w impl.World, host int, by int) impl.World {
	w = cloneWorld(w)
	w.Disk = withEpoch(w.Disk, host, w.Disk.Epochs[host]+by)
	return w
}

func TestCalmOfAHostWithAnotherEpoch(t *testing.T) {
	for host := range impl.MaxHosts {
		for _, by := range []int{1, 2, 50} {
			w := outdated(upWorld(), host, by)
			what := fmt.Sprint("host ", host, " was fenced ", by, " times")
			wantCalmed(t, what, w, roused(w, host))
			w.Disk = underWay(w.Disk, host, blockOut(7, "of the epoch that it never knew"))
			wantCalmed(t, what+", writes are under way", w, roused(w, host))
			w.Hosts[host].Ready = false
			wantCalmed(t, what+", not Ready", w, roused(w, host))
			w.Hosts[host].Txn = impl.MaxTxn
			wantCalmed(t, what+", at MaxTxn", w, roused(w, host))
		}
	}
	w := outdated(outdated(outdated(upWorld(), 0, 1), 1, 1), 2, 3)
	wantCalmed(t, "all were fenced", w, roused(roused(roused(w, 0), 1), 2))
}

// What it was busy with has no reply: it has fallen ahead of its next step.
func TestCalmOfABusyHostWithAnotherEpoch(t *testing.T) {
	for host := range impl.MaxHosts {
		w := outdated(upWorld(), host, 1)
		want := roused(w, host)
		for _, o := range eachKind() {
			for _, pc := range []int{0, 1, 3, 5, 8, 13, impl.MaxPc} {
				h := busyHost(o, pc)
				h.Id, h.Epoch = host, w.Hosts[host].Epoch
				w.Hosts[host] = h
				if got := impl.Calm(w, 1); !sameWorld(got, want) {
					t.Errorf("host %d was fenced, and busy with %+v at %d: it becomes %+v, and the last reply is %+v", host, o, pc, got.Hosts[host], got.Replies[len(got.Replies)-1])
				}
			}
		}
		w.Hosts[host] = midHost(5)
		w.Hosts[host].Id, w.Hosts[host].Epoch = host, 1
		wantCalmed(t, "in the midst of a write", w, want)
	}
}

// A host that is up, not Busy and not Ready keeps its epoch, and with that its leases.
func TestCalmOfAHostThatIsNotReady(t *testing.T) {
	for host := range impl.MaxHosts {
		for _, txn := range []int{0, 5, impl.MaxTxn - 1} {
			w := upWorld()
			w.Hosts[host].Ready, w.Hosts[host].Txn = false, txn
			wantCalmed(t, fmt.Sprint("host ", host, " is not Ready"), w, rested(w, host))
			w.Disk = landed(w.Disk, leaseOut(9, impl.Lease{Host: host, Epoch: 1}), leaseOut(14, impl.Lease{Host: host, Epoch: 90}))
			wantCalmed(t, fmt.Sprint("host ", host, " is not Ready, and has leases of another epoch"), w, rested(w, host))
		}
	}
	w := upWorld()
	for host := range impl.MaxHosts {
		w.Hosts[host].Ready = false
	}
	wantCalmed(t, "nobody is Ready", w, rested(rested(rested(w, 0), 1), 2))
}

// Ready alone tells whether it is to recover itself; a call that it is busy with goes ahead, and is told PlBusy.
func TestCalmOfABusyHostThatIsNotReady(t *testing.T) {
	for host := range impl.MaxHosts {
		for _, o := range []impl.Op{writeOp(), {Kind: impl.OpDrain}, {Kind: impl.OpHold}, {Kind: impl.OpRead, Vol: 3}} {
			w := upWorld()
			w.Hosts[host].Ready, w.Hosts[host].Busy, w.Hosts[host].Op = false, true, o
			first := cloneWorld(w)
			first.Hosts[host] = impl.Host{Id: host, Epoch: w.Disk.Epochs[host], Up: true}
			first.Replies = append(first.Replies, impl.Reply{Host: host, Op: o, Code: impl.PlBusy, At: 3})
			wantCalm(t, "its call is told", w, 1, first)
			wantSettled(t, "its call is told", first, false)
			wantCalm(t, "and it recovers itself", w, 2, rested(first, host))
			wantCalm(t, "and it recovers itself", w, 3, rested(first, host))
		}
	}
}

// endOf is the world behind steps of that host alone, until it has no call, or so many.
func endOf(w impl.World, host int) impl.World {
	for n := 0; n < 180 && w.Hosts[host].Busy; n++ {
		w, _ = plainWorldDo(w, impl.Act{Kind: impl.AcStep, A: host})
	}
	return w
}

func TestCalmOfABusyHost(t *testing.T) {
	t.Parallel()
	for _, k := range callKinds() {
		for _, o := range []impl.Op{firstCall(k), tail(someOps(k.kind))[0]} {
			for pc := range impl.MaxPc + 1 {
				w := upWorld()
				w.Hosts[1] = busyHost(o, pc)
				if o.Kind <= impl.OpDrain && pc > 0 {
					w.Hosts[1] = midHost(pc)
					w.Hosts[1].Op = o
				}
				want := endOf(w, 1)
				what := fmt.Sprintf("busy with %+v at %d", o, pc)
				// A Journal of no Outs is no sector: who puts it sees no pool, and takes no step any more.
				stuck := o.Kind == impl.OpRead && 1 <= pc && pc <= 3
				if n := len(want.Replies); stuck != want.Hosts[1].Busy || !stuck && (n != 4 || want.Replies[3].Op != o) {
					t.Errorf("%s: the replies are %+v", what, want.Replies)
				}
				wantCalm(t, what, w, 1, want)
			}
		}
	}
}

// What it goes on with is written down by hand for one call at each Pc.
func TestCalmOfAWriteAtEachPc(t *testing.T) {
	for steps := range 10 {
		w := playOf(t, "a write", written(steps))
		w = impl.Calm(w, 1)
		what := fmt.Sprint("behind ", steps, " steps of a write")
		wantLogged(t, what, w, createdEvent(), writtenEvent())
		wantSaid(t, what, w, fallenWrite().Text)
		replies := w.Replies[4:]
		want := []impl.Reply{{Op: fallenWrite(), At: 2}, {Host: 1, Op: impl.Op{Kind: impl.OpRecover, Vol: 1}, At: 2}, {Host: 2, Op: impl.Op{Kind: impl.OpRecover, Vol: 2}, At: 2}}
		if !slices.Equal(replies, want) {
			t.Errorf("%s the replies are %+v", what, replies)
		}
		wantSettled(t, what, w, true)
		if w.Disk.Epochs[0] != 2 || w.Hosts[0].Txn != 2 {
			t.Errorf("%s host 0 is %+v, the epochs are %v", what, w.Hosts[0], w.Disk.Epochs)
		}
	}
}

// Behind the fall of its host a write is done just where its journal has landed.
func TestCalmOfAWriteThatFell(t *testing.T) {
	for steps := range 10 {
		for _, lands := range []bool{true, false} {
			s := append(written(steps), impl.Act{Kind: impl.AcCrash})
			ahead := playOf(t, "a fall", s)
			for range ahead.Disk.Pend {
				if lands {
					s.add(impl.AcLand, 0)
				}
			}
			ahead = playOf(t, "a fall", s)
			log, text := []impl.Event{createdEvent()}, ""
			if steps > 4 || steps == 4 && lands {
				log, text = append(log, writtenEvent()), fallenWrite().Text
			}
			what := fmt.Sprint("it falls behind ", steps, " steps, and what it put lands: ", lands)
			w := calmOf(t, what, ahead, 1)
			wantSettled(t, what, w, true)
			wantLogged(t, what, w, log...)
			wantSaid(t, what, w, text)
			if !slices.Equal(w.Disk.Epochs, []int{3, 2, 2}) || w.Hosts[0].Txn != len(log) {
				t.Errorf("%s: the epochs are %v, host 0 is %+v", what, w.Disk.Epochs, w.Hosts[0])
			}
			vol, _ := impl.ReadVol(w.Disk.Sectors[10])
			group, _ := impl.ReadGroup(w.Disk.Sectors[15])
			if vol.Lease != planNo || group.Lease != planNo {
				t.Errorf("%s: its leases are not given back: %+v %+v", what, vol.Lease, group.Lease)
			}
		}
	}
}

// openWorld has the Journal of that host open; nobody has looked at it.
func openWorld(w impl.World, host int, txn int) impl.World {
	w = cloneWorld(w)
	w.Disk = landed(w.Disk, journalOf(host, txn, outOf(9, 1), outOf(14, 2), outOf(20, 3)))
	return w
}

func TestCalmOfAnOpenJournal(t *testing.T) {
	for host := range impl.MaxHosts {
		for _, txn := range []int{1, 4, 900, impl.MaxTxn} {
			what := fmt.Sprint("the Journal of host ", host, " is open, of ", txn)
			up := openWorld(upWorld(), host, txn)
			wantCalm(t, what+", and it is up and Ready", up, 1, seen(up))
			wantSettled(t, what, seen(up), false)
			down := openWorld(upWorld(), host, txn)
			down.Hosts[host] = downHost(host)
			wantCalmed(t, what+", and it has fallen", down, roused(seen(down), host))
			fenced := openWorld(outdated(upWorld(), host, 1), host, txn)
			wantCalmed(t, what+", and it was fenced", fenced, roused(seen(fenced), host))
			waits := openWorld(upWorld(), host, txn)
			waits.Hosts[host].Ready = false
			wantCalmed(t, what+", and it is not Ready", waits, rested(seen(waits), host))
		}
	}
}

// Three that rise at once take their steps in turn: who has an open Journal needs three more.
func TestCalmGoesInTurns(t *testing.T) {
	w := downWorld()
	w.Disk = landed(w.Disk, journalOf(0, 900, blockOut(3, "redone")))
	want := roused(roused(roused(seen(w), 1), 2), 0)
	wantCalmed(t, "host 0 is told last", w, want)
	w.Disk = landed(w.Disk, journalOf(1, 900, blockOut(4, "redone too")))
	want = roused(roused(roused(seen(w), 2), 0), 1)
	wantCalmed(t, "host 2 is told first", w, want)
	w.Disk = landed(w.Disk, journalOf(2, 901, blockOut(3, "redone last")))
	want = roused(roused(roused(seen(w), 0), 1), 2)
	wantCalmed(t, "all are told in one turn", w, want)
}

// ask has the host busy with that call.
func ask(w impl.World, host int, o impl.Op) impl.World {
	w = cloneWorld(w)
	w.Hosts[host].Busy, w.Hosts[host].Op = true, o
	return w
}

// In each turn host 0 is ahead of host 1, and that of host 2.
func TestCalmGoesInOrder(t *testing.T) {
	for first := range impl.MaxHosts {
		w := upWorld()
		w.Disk = landed(w.Disk, leaseOut(12, planNo))
		for host := first; host < impl.MaxHosts; host++ {
			w = ask(w, host, impl.Op{Kind: impl.OpHold, Vol: 3})
		}
		want := cloneWorld(w)
		want.Disk = landed(w.Disk, leaseOut(12, impl.Lease{Host: first, Epoch: w.Disk.Epochs[first]}))
		for host := first; host < impl.MaxHosts; host++ {
			want.Hosts[host].Busy, want.Hosts[host].Op = false, impl.Op{}
			code := impl.PlOk
			if host > first {
				code = impl.PlBusy
			}
			want.Replies = append(want.Replies, impl.Reply{Host: host, Op: impl.Op{Kind: impl.OpHold, Vol: 3}, Code: code, At: 3})
		}
		wantCalmed(t, fmt.Sprint("they ask for one lease, host ", first, " ahead"), w, want)
	}
}
