package tests

import (
	"fmt"
	"slices"
	"testing"

	"loop.example/g00761/impl"
)

// told is the world with one more reply to that OpRecover.
func told(w impl.World, host int, x int, code int) impl.World {
	w = cloneWorld(w)
	w.Replies = append(w.Replies, impl.Reply{Host: host, Op: impl.Op{Kind: impl.OpRecover, Vol: x}, Code: code, At: len(w.Log)})
	return w
}

// takenOver is the world in which host has recovered x, whose epoch on the disk is by more, and was told so.
func takenOver(w impl.World, host int, x int, by int) impl.World {
	w = cloneWorld(w)
	w.Disk = withEpoch(w.Disk, x, w.Disk.Epochs[x]+by)
	w.Disk.Sectors = recovered(w.Disk.Sectors, x, w.Disk.Epochs[x])
	w.Hosts[host] = impl.Host{Id: host, Epoch: w.Hosts[host].Epoch, Up: true, Ready: w.Hosts[host].Ready, Txn: w.Hosts[host].Txn}
	return told(w, host, x, impl.PlOk)
}

// claimed has host busy with an OpRecover of x at that Pc, having said so.
func claimed(w impl.World, host int, x int, pc int) impl.World {
	w = ask(w, host, impl.Op{Kind: impl.OpRecover, Vol: x})
	w.Hosts[host].Pc = pc
	return withRec(w, x, impl.Lease{Host: host, Epoch: w.Disk.Epochs[host]})
}

// withRec has that Rec in the sector of host x, and else what stands there.
func withRec(w impl.World, x int, rec impl.Lease) impl.World {
	sec, _ := impl.ReadHost(w.Disk.Sectors[x])
	w = cloneWorld(w)
	w.Disk.Sectors[x] = impl.ShowHost(impl.HostSec{Beat: sec.Beat, Rec: rec})
	return w
}

func pairs() [][2]int { return [][2]int{{0, 1}, {0, 2}, {1, 0}, {1, 2}, {2, 0}, {2, 1}} }

// A host that rises is ahead of the steps of all: who comes ahead of it in its turn has said first that it recovers it.
func TestCalmOfATakeoverThatBegins(t *testing.T) {
	for _, pair := range pairs() {
		host, x := pair[0], pair[1]
		w := ask(upWorld(), host, impl.Op{Kind: impl.OpRecover, Vol: x})
		w.Hosts[x] = downHost(x)
		if host > x {
			first := told(w, host, x, impl.PlBusy)
			first.Hosts[host] = upWorld().Hosts[host]
			wantCalmed(t, fmt.Sprint(host, " is to recover ", x, ", which rises"), w, roused(first, x))
			continue
		}
		first := takenOver(told(w, x, x, impl.PlBusy), host, x, 2)
		first.Hosts[x] = impl.Host{Id: x, Epoch: first.Disk.Epochs[x] - 1, Up: true}
		what := fmt.Sprint(host, " recovers ", x, ", which rises")
		wantCalm(t, what, w, 1, first)
		wantSettled(t, what, first, false)
		wantCalmed(t, what+" once more", first, roused(first, x))
		wantCalm(t, what, w, 2, roused(first, x))
		wantCalm(t, what, w, impl.CalmNeeds, roused(first, x))
	}
}

// Once it was fenced, one that rises is not fenced again; it waits for another round, and keeps its epoch there.
func TestCalmOfATakeoverThatIsUnderWay(t *testing.T) {
	for _, pair := range pairs() {
		host, x := pair[0], pair[1]
		for pc := range 14 {
			w := claimed(upWorld(), host, x, pc)
			w.Hosts[x] = downHost(x)
			by := 1
			if pc <= 1 {
				by = 2
			}
			first := takenOver(told(w, x, x, impl.PlBusy), host, x, by)
			if pc == 13 && host < x { // it has ended ahead of the other one's step
				first = roused(takenOver(w, host, x, 0), x)
				first.Replies = append(w.Replies, first.Replies[len(first.Replies)-2:]...)
				wantCalmed(t, fmt.Sprint(host, " ends its takeover of ", x), w, first)
				continue
			}
			if pc > 6 { // it is past some of the leases
				first.Disk.Sectors = withRec(w, x, planNo).Disk.Sectors
				for sector := pc + 3; sector < 16; sector++ {
					first.Disk.Sectors[sector] = recovered(w.Disk.Sectors, x, first.Disk.Epochs[x])[sector]
				}
			}
			first.Hosts[x] = impl.Host{Id: x, Epoch: w.Disk.Epochs[x] + 1, Up: true}
			what := fmt.Sprint(host, " recovers ", x, ", and is at ", pc)
			wantCalm(t, what, w, 1, first)
			wantSettled(t, what, first, false)
			second := rested(first, x)
			if pc <= 1 {
				second = roused(first, x)
			}
			wantCalm(t, what, w, 2, second)
			wantSettled(t, what, second, true)
			wantCalm(t, what, w, impl.CalmNeeds, second)
		}
	}
}

// One that is up and has no call does not know that it was taken over, until it falls in the next round.
func TestCalmOfATakeoverOfOneThatIsUp(t *testing.T) {
	for _, pair := range pairs() {
		host, x := pair[0], pair[1]
		w := ask(upWorld(), host, impl.Op{Kind: impl.OpRecover, Vol: x})
		first := takenOver(w, host, x, 1)
		what := fmt.Sprint(host, " recovers ", x, ", which is up")
		wantCalm(t, what, w, 1, first)
		wantSettled(t, what, first, false)
		wantCalmed(t, what, first, roused(first, x))
		wantCalm(t, what, w, 2, roused(first, x))
		w.Disk = underWay(w.Disk, x, blockOut(5, "of one that is up"))
		wantCalm(t, what+" and has put something", w, 1, first)
	}
}

// Each of two is fenced by the other one, and both fall at their next write; behind that each rises.
func TestCalmOfTwoThatRecoverEachOther(t *testing.T) {
	for _, pair := range pairs() {
		a, b := min(pair[0], pair[1]), max(pair[0], pair[1])
		for pcs := range 4 {
			w := ask(ask(upWorld(), a, impl.Op{Kind: impl.OpRecover, Vol: b}), b, impl.Op{Kind: impl.OpRecover, Vol: a})
			if pcs&1 == 1 {
				w = claimed(w, a, b, 1)
			}
			if pcs&2 == 2 {
				w = claimed(w, b, a, 1)
			}
			what := fmt.Sprintf("%d and %d recover each other, %b", a, b, pcs)
			if pcs == 1 { // who is ahead fences the other one before that has said a word
				first := takenOver(w, a, b, 1)
				first.Hosts[b] = downHost(b)
				wantCalm(t, what, w, 1, first)
				wantCalm(t, what, w, 2, roused(first, b))
				continue
			}
			first := withRec(withRec(w, a, impl.Lease{Host: b, Epoch: w.Disk.Epochs[b]}), b, impl.Lease{Host: a, Epoch: w.Disk.Epochs[a]})
			first.Disk = withEpoch(withEpoch(first.Disk, a, w.Disk.Epochs[a]+1), b, w.Disk.Epochs[b]+1)
			first.Hosts[a], first.Hosts[b] = downHost(a), downHost(b)
			wantCalm(t, what, w, 1, first)
			wantSettled(t, what, first, false)
			second := roused(roused(first, a), b)
			wantCalm(t, what, w, 2, second)
			wantCalm(t, what, w, impl.CalmNeeds, second)
			wantSettled(t, what, second, true)
		}
	}
}

func TestCalmOfThreeThatRecoverEachOther(t *testing.T) {
	for turn := 1; turn <= 2; turn++ {
		w := upWorld()
		first := upWorld()
		for host := range impl.MaxHosts {
			x := (host + turn) % impl.MaxHosts
			w = ask(w, host, impl.Op{Kind: impl.OpRecover, Vol: x})
			first = withRec(first, x, impl.Lease{Host: host, Epoch: w.Disk.Epochs[host]})
			first.Hosts[host] = downHost(host)
		}
		for host := range impl.MaxHosts {
			first.Disk = withEpoch(first.Disk, host, first.Disk.Epochs[host]+1)
		}
		what := fmt.Sprint("each recovers the one ", turn, " behind it")
		wantCalm(t, what, w, 1, first)
		second := roused(roused(roused(first, 0), 1), 2)
		wantCalm(t, what, w, 2, second)
		wantSettled(t, what, second, true)
		wantCalm(t, what, w, impl.MaxCalm, second)
	}
}

// Of two that recover one host the later one is told PlBusy.
func TestCalmOfTwoTakeovers(t *testing.T) {
	w := ask(ask(upWorld(), 1, impl.Op{Kind: impl.OpRecover}), 2, impl.Op{Kind: impl.OpRecover})
	first := told(w, 2, 0, impl.PlBusy)
	first.Hosts[2] = upWorld().Hosts[2]
	first = takenOver(first, 1, 0, 1)
	wantCalm(t, "two recover one", w, 1, first)
	wantCalm(t, "two recover one", w, 2, roused(first, 0))
}

// A call of who is taken over meanwhile is done where its Journal has landed ahead of the fence, and else not at all.
func TestCalmOfATakeoverOfOneThatIsBusy(t *testing.T) {
	for steps := range 10 {
		for pc := range 3 {
			s := written(0)
			s.rise(1, 11)
			s.ask(1, impl.Op{Kind: impl.OpRecover}, pc)
			if pc == 0 {
				s.steps(0, steps)
			} else {
				s = written(steps)
				s = append(s, impl.Act{Kind: impl.AcRise, A: 1})
				s.steps(1, 11)
				s.ask(1, impl.Op{Kind: impl.OpRecover}, pc)
			}
			ahead := playOf(t, "a takeover", s)
			// Host 0 takes as many steps as host 1 until that has fenced it, and one more where it is ahead in that turn.
			done := steps+2-pc > 4 || pc == 2 && steps > 4
			log, text := []impl.Event{createdEvent()}, ""
			if done {
				log, text = append(log, writtenEvent()), fallenWrite().Text
			}
			what := fmt.Sprint("behind ", steps, " steps of a write, and ", pc, " of a takeover")
			w := calmOf(t, what, ahead, impl.CalmNeeds)
			wantSettled(t, what, w, true)
			wantLogged(t, what, w, log...)
			wantSaid(t, what, w, text)
			if w.Disk.Epochs[0] < 4 || !slices.Equal(w.Disk.Epochs[1:], []int{2, 2}) {
				t.Errorf("%s: the epochs are %v", what, w.Disk.Epochs)
			}
		}
	}
}

// Where the epochs of a host come to an end it rises no more, and the world is never settled.
func TestCalmAtMaxEpoch(t *testing.T) {
	for host := range impl.MaxHosts {
		w := upWorld()
		w.Disk = withEpoch(w.Disk, host, impl.MaxEpoch)
		w.Hosts[host] = downHost(host)
		what := fmt.Sprint("host ", host, " is at MaxEpoch")
		wantCalm(t, what, w, 1, w)
		wantCalm(t, what, w, impl.MaxCalm, w)
		fenced := cloneWorld(w)
		fenced.Hosts[host] = impl.Host{Id: host, Epoch: impl.MaxEpoch - 1, Up: true, Ready: true}
		wantCalm(t, what+", and was fenced", fenced, 1, w)
		wantCalm(t, what+", and was fenced", fenced, 2, w)
		up := cloneWorld(w)
		up.Hosts[host] = impl.Host{Id: host, Epoch: impl.MaxEpoch, Up: true}
		wantCalmed(t, what+", and is up", up, rested(up, host))
		w.Disk = withEpoch(w.Disk, host, impl.MaxEpoch-1)
		wantCalmed(t, what+" less 1", w, roused(w, host))
	}
}

// A takeover is refused there, too late to take back that it was claimed: the other one is told PlBusy ever after.
func TestCalmOfATakeoverAtMaxEpoch(t *testing.T) {
	w := ask(upWorld(), 1, impl.Op{Kind: impl.OpRecover})
	w.Disk = withEpoch(w.Disk, 0, impl.MaxEpoch)
	w.Hosts[0] = impl.Host{Id: 0, Epoch: impl.MaxEpoch, Up: true}
	w.Disk = landed(w.Disk, recOut(0, planMe))
	want := cloneWorld(w)
	want.Hosts[1] = upWorld().Hosts[1]
	want = told(told(want, 0, 0, impl.PlBusy), 1, 0, impl.PlBusy)
	wantCalm(t, "one round", w, 1, want)
	for range 3 {
		want = told(want, 0, 0, impl.PlBusy)
	}
	wantCalm(t, "four rounds", w, 4, want)
}

func TestCalmAtMaxTxn(t *testing.T) {
	for txn := impl.MaxTxn - 2; txn <= impl.MaxTxn; txn++ {
		w := upWorld()
		w.Disk = landed(w.Disk, doneOf(1, txn))
		w.Seen[1] = txn
		w.Hosts[1].Txn = txn
		w = ask(w, 1, writeOp())
		got := calmOf(t, "a write", w, 1)
		reply := impl.Reply{Host: 1, Op: writeOp(), At: 3}
		end := txn
		if txn < impl.MaxTxn {
			end, reply.At = txn+1, 4
		} else {
			reply.Code = impl.PlFull
		}
		if got.Replies[3] != reply || got.Hosts[1].Txn != end || got.Seen[1] != end || len(got.Log) != reply.At {
			t.Errorf("at Txn %d: %+v, %+v, Seen %v", txn, got.Replies[3], got.Hosts[1], got.Seen)
		}
		wantSettled(t, "a write near MaxTxn", got, true)
	}
}

// The chapters' words leave a world that is not right in three ways; the next act makes that the zero World, so does the round.
func TestCalmThatEndsInNoWorld(t *testing.T) {
	for host := range impl.MaxHosts {
		w := upWorld()
		w.Hosts[host].Ready, w.Hosts[host].Txn = false, impl.MaxTxn
		wantCalm(t, "an OpRecover at MaxTxn", w, 1, impl.World{})
		wantCalm(t, "an OpRecover at MaxTxn", w, 5, impl.World{})
		for _, o := range []impl.Op{{Kind: 20}, {Kind: impl.OpRead}, {Kind: impl.OpRecover}, {Kind: impl.OpCreate, Vol: 4}} {
			text, _ := plainShow("j", impl.Journal{Txn: 900, Op: o, Outs: []impl.Out{outOf(9, 1)}})
			journal := impl.Out{Sector: 3 + host, Text: text}
			for _, base := range []impl.World{upWorld(), downWorld(), outdated(upWorld(), 1, 1), outdated(downWorld(), 2, 3)} {
				base.Disk = landed(base.Disk, journal)
				wantCalm(t, "a Journal's Op is no call", base, 0, base)
				wantCalm(t, "a Journal's Op is no call", base, 1, impl.World{})
				wantCalm(t, "a Journal's Op is no call", base, impl.MaxCalm, impl.World{})
			}
			mixed := outdated(upWorld(), 2, 1)
			mixed.Hosts[0] = downHost(0)
			mixed.Disk = landed(mixed.Disk, journal)
			wantCalm(t, "a Journal's Op is no call, and two are to rise", mixed, 1, impl.World{})
		}
	}
}

// A Journal that lands with the last step of a call is seen behind that, where nobody has a call any more.
func TestCalmThatEndsInNoWorldAtItsLastStep(t *testing.T) {
	text, _ := plainShow("j", impl.Journal{Txn: 900, Op: impl.Op{Kind: impl.OpHold}, Outs: []impl.Out{outOf(9, 1)}})
	for host := range impl.MaxHosts {
		w := upWorld()
		h := midHost(8)
		h.Id, h.Epoch = host, w.Disk.Epochs[host]
		w.Hosts[host] = h
		w.Disk = underWay(w.Disk, host, impl.Out{Sector: 3 + host, Text: text})
		wantWorldOk(t, "it lands at the last step", w, true)
		wantCalm(t, "it lands at the last step", w, 1, impl.World{})
		wantCalm(t, "it lands at the last step", w, 2, impl.World{})
	}
}

func TestCalmAtTheBoundsOfLogAndReplies(t *testing.T) {
	for room := range 4 {
		w := brimWorld()
		for host := range impl.MaxHosts {
			w.Disk = withEpoch(w.Disk, host, 5)
			w.Disk = landed(w.Disk, journalOf(host, 900+host, blockOut(3+host, "redone")))
			w.Hosts[host] = downHost(host)
			w.Seen[host] = 899
		}
		w.Log = w.Log[:impl.MaxLog-room]
		w.Replies = slices.Repeat([]impl.Reply{replyOf(1, 0)}, impl.MaxLog-room)
		want := roused(roused(roused(seen(w), 0), 1), 2)
		want.Replies = want.Replies[:min(len(want.Replies), impl.MaxLog)]
		wantCalmed(t, fmt.Sprint("room for ", room), w, want)
		if len(want.Log) != impl.MaxLog-room+min(room, 3) {
			t.Error("there is room for", room, "and Log has", len(want.Log))
		}
	}
}

// Where as many writes as may be are under way, a call waits until their host has fallen.
func TestCalmWhereTheDiskIsFull(t *testing.T) {
	w := upWorld()
	w.Hosts[1] = midHost(5)
	w.Disk = crowded(w.Disk, 2)
	wantCalm(t, "their host is up", w, 1, w)
	wantCalm(t, "their host is up", w, 3, w)
	w.Hosts[0] = downHost(0)
	got := calmOf(t, "their host has fallen", w, 1)
	wantSettled(t, "their host has fallen", got, true)
	if n := len(got.Replies); n != 5 || got.Replies[3] != (impl.Reply{Host: 1, Op: writeOp(), At: 3}) {
		t.Errorf("the replies are %+v", got.Replies)
	}
}

// Writes under way of a host that is up and has no call stay where they are.
func TestCalmOfWritesOfAHostThatIsUp(t *testing.T) {
	w := upWorld()
	w.Disk = underWay(w.Disk, 1, blockOut(4, "one"), blockOut(4, "two"), journalOf(1, 900, outOf(9, 1)))
	w.Disk = underWay(w.Disk, 2, blockOut(4, "three"))
	wantCalm(t, "two are up", w, 1, w)
	w.Hosts[2] = downHost(2)
	want := roused(w, 2)
	wantCalm(t, "one is up", w, 1, want)
	wantSettled(t, "one is up", want, false)
}
