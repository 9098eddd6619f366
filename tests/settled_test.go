package tests

import (
	"fmt"
	"slices"
	"testing"

	"loop.example/g00761/impl"
)

func wantSettled(t *testing.T, what string, w impl.World, want bool) {
	t.Helper()
	worldStays(t, what, w, func(w impl.World) {
		if got := impl.Settled(w); got != want {
			t.Errorf("%s: Settled is %v of hosts %+v, epochs %v, %d writes under way", what, got, w.Hosts, w.Disk.Epochs, len(w.Disk.Pend))
		}
	})
}

// plainSettled is the chapter's words once more.
func plainSettled(w impl.World) bool {
	if !plainWorldOk(w) || len(w.Disk.Pend) > 0 {
		return false
	}
	ok := true
	for i, h := range w.Hosts {
		journal, _ := impl.ReadJournal(w.Disk.Sectors[3+i])
		ok = ok && h.Up && h.Ready && !h.Busy && h.Epoch == w.Disk.Epochs[i] && journal.Done
	}
	return ok
}

// calmedWorld is a new world in which each host has risen once.
func calmedWorld() impl.World {
	w := impl.NewWorld()
	for host := range impl.MaxHosts {
		w.Disk.Epochs[host] = 2
		w.Hosts[host] = impl.Host{Id: host, Epoch: 2, Up: true, Ready: true}
		w.Replies = append(w.Replies, impl.Reply{Host: host, Op: impl.Op{Kind: impl.OpRecover, Vol: host}})
	}
	return w
}

// brimWorld is settled, and as near to its bounds as one that is settled can be.
func brimWorld() impl.World {
	w := fullWorld()
	w.Disk.Pend = nil
	for host := range impl.MaxHosts {
		w.Disk.Epochs[host] = impl.MaxEpoch
		w.Disk.Sectors[3+host] = doneText(impl.MaxTxn)
		w.Hosts[host] = impl.Host{Id: host, Epoch: impl.MaxEpoch, Up: true, Ready: true, Txn: impl.MaxTxn}
		w.Seen[host] = impl.MaxTxn
	}
	return w
}

func settledWorlds() []impl.World {
	return []impl.World{upWorld(), calmedWorld(), brimWorld()}
}

func TestSettledOfANewWorld(t *testing.T) {
	wantSettled(t, "nobody is up", impl.NewWorld(), false)
	for i, w := range settledWorlds() {
		wantSettled(t, fmt.Sprint("settled world ", i), w, true)
	}
}

// eachSettled asks of each settled world with one thing changed.
func eachSettled(t *testing.T, what string, want bool, change func(w *impl.World)) {
	t.Helper()
	for i, w := range settledWorlds() {
		w = cloneWorld(w)
		change(&w)
		wantWorldOk(t, fmt.Sprint(what, ", of world ", i), w, true)
		wantSettled(t, fmt.Sprint(what, ", of world ", i), w, want)
	}
}

func TestSettledButForOneThing(t *testing.T) {
	for host := range impl.MaxHosts {
		of := fmt.Sprint(" host ", host)
		eachSettled(t, "not Up:"+of, false, func(w *impl.World) { w.Hosts[host] = downHost(host) })
		eachSettled(t, "not Ready:"+of, false, func(w *impl.World) { w.Hosts[host].Ready = false })
		for _, o := range eachKind() {
			eachSettled(t, "Busy:"+of, false, func(w *impl.World) { w.Hosts[host].Busy, w.Hosts[host].Op = true, o })
		}
		eachSettled(t, "Busy and not Ready:"+of, false, func(w *impl.World) {
			w.Hosts[host] = risen(host, w.Disk.Epochs[host])
		})
		for _, lower := range []int{1, 2, 99} {
			eachSettled(t, "an older Epoch:"+of, false, func(w *impl.World) {
				w.Disk.Epochs[host] = min(w.Disk.Epochs[host]+lower, impl.MaxEpoch)
				w.Hosts[host].Epoch = w.Disk.Epochs[host] - lower
			})
		}
		for _, sector := range []int{0, host, 3 + host, 9, 15, 16, impl.Sectors - 1} {
			eachSettled(t, "a write under way:"+of, false, func(w *impl.World) {
				w.Disk = underWay(w.Disk, host, impl.Out{Sector: sector, Text: w.Disk.Sectors[sector]})
			})
		}
		for _, txn := range []int{1, 2, 400, impl.MaxTxn} {
			eachSettled(t, "an open Journal:"+of, false, func(w *impl.World) {
				w.Disk = landed(w.Disk, journalOf(host, txn, outOf(9, 1)))
			})
			eachSettled(t, "an open Journal that was seen:"+of, false, func(w *impl.World) {
				w.Disk = landed(w.Disk, journalOf(host, txn, outOf(9, 1)))
				w.Seen[host] = impl.MaxTxn
			})
		}
	}
	eachSettled(t, "many writes under way", false, func(w *impl.World) { w.Disk = crowded(w.Disk, 0) })
}

// What the words do not name is nothing to it: leases, who recovers whom, Txn, Seen, Log and Replies.
func TestSettledWhateverElse(t *testing.T) {
	for host := range impl.MaxHosts {
		for _, rec := range []impl.Lease{planNo, planMe, planOther, planOld, stepThird, stepOldThird} {
			eachSettled(t, "a Rec", true, func(w *impl.World) { w.Disk = landed(w.Disk, recOut(host, rec)) })
			eachSettled(t, "a Lease", true, func(w *impl.World) {
				w.Disk = landed(w.Disk, leaseOut(9+host, rec), leaseOut(13+host, rec))
			})
		}
		for _, txn := range []int{0, 1, 77, impl.MaxTxn} {
			eachSettled(t, "a Txn", true, func(w *impl.World) { w.Hosts[host].Txn = txn })
			eachSettled(t, "a Seen", true, func(w *impl.World) { w.Seen[host] = txn })
			eachSettled(t, "a Journal that is Done", true, func(w *impl.World) { w.Disk = landed(w.Disk, doneOf(host, txn)) })
		}
	}
	eachSettled(t, "no Log, no Replies", true, func(w *impl.World) { w.Log, w.Replies = nil, nil })
	eachSettled(t, "epochs that differ", true, func(w *impl.World) {
		for host, epoch := range []int{1, 5, impl.MaxEpoch} {
			w.Disk.Epochs[host], w.Hosts[host].Epoch = epoch, epoch
		}
	})
}

func TestSettledWhereTheWorldIsNotRight(t *testing.T) {
	for _, wrong := range wrongWorlds() {
		if impl.Settled(wrong.world) {
			t.Errorf("%s: what is not right is Settled", wrong.what)
		}
	}
	var l worldList
	for _, w := range settledWorlds() {
		l.add("the zero one", impl.World{}, func(w *impl.World) {})
		l.add("Seen lacks", w, func(w *impl.World) { w.Seen = nil })
		l.add("one Seen too many", w, func(w *impl.World) { w.Seen = append(w.Seen, 0) })
		l.add("an Event", w, func(w *impl.World) { w.Log = []impl.Event{{Host: 3, Txn: 1, Op: writeOp()}} })
		l.add("a Reply", w, func(w *impl.World) { w.Replies = append(w.Replies[:1], impl.Reply{Code: 7, Op: writeOp()}) })
		l.add("too many Replies", w, func(w *impl.World) { w.Replies = slices.Repeat([]impl.Reply{replyOf(0, 0)}, impl.MaxLog+1) })
		l.add("no hosts", w, func(w *impl.World) { w.Hosts = nil })
		l.add("one host too few", w, func(w *impl.World) { w.Hosts = w.Hosts[:2] })
		l.add("one host too many", w, func(w *impl.World) { w.Hosts = append(w.Hosts, w.Hosts[2]) })
		l.add("hosts that stand elsewhere", w, func(w *impl.World) { w.Hosts[0], w.Hosts[1] = w.Hosts[1], w.Hosts[0] })
		l.add("an Epoch above that on the disk", w, func(w *impl.World) { w.Hosts[1].Epoch++ })
		l.add("an Op of one that is not Busy", w, func(w *impl.World) { w.Hosts[2].Op = writeOp() })
		l.add("an epoch lacks", w, func(w *impl.World) { w.Disk.Epochs = w.Disk.Epochs[:2] })
		l.add("a sector too few", w, func(w *impl.World) { w.Disk.Sectors = w.Disk.Sectors[:impl.Sectors-1] })
		l.add("a sector too many", w, func(w *impl.World) { w.Disk.Sectors = append(w.Disk.Sectors, "") })
		for sector := range impl.Sectors {
			l.add("what stands there is no sector", w, func(w *impl.World) { w.Disk = landed(w.Disk, spoiling(sector)) })
		}
	}
	for _, wrong := range l {
		wantWorldOk(t, wrong.what, wrong.world, false)
		wantSettled(t, wrong.what, wrong.world, false)
	}
}

func TestSettledAsSaid(t *testing.T) {
	for _, w := range append(rightWorlds(), wrongWorlds()...) {
		if got, want := impl.Settled(w.world), plainSettled(w.world); got != want {
			t.Errorf("%s: Settled is %v", w.what, got)
		}
	}
	for host, right := range rightHosts() {
		w := upWorld()
		h := right.host
		w.Disk.Epochs[h.Id], w.Hosts[h.Id] = max(1, h.Epoch), h
		if got, want := impl.Settled(w), plainSettled(w); got != want {
			t.Errorf("%s (%d): Settled is %v", right.what, host, got)
		}
	}
}
