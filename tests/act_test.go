package tests

import (
	"fmt"
	"math"
	"slices"
	"strings"
	"testing"

	"loop.example/g00761/impl"
)

// didOf asks twice, that nothing handed in is changed, and that nothing is shared.
func didOf(t *testing.T, what string, w impl.World, a impl.Act) (impl.World, int) {
	t.Helper()
	code := 0
	got := worldApart(t, what, w, func(w impl.World) (impl.World, string) {
		next, c := impl.WorldDo(w, a)
		code = c
		return next, fmt.Sprint(c)
	})
	return got, code
}

func wantDid(t *testing.T, what string, w impl.World, a impl.Act, want impl.World, wantCode int) {
	t.Helper()
	got, code := didOf(t, fmt.Sprintf("%s: %+v", what, a), w, a)
	if code != wantCode {
		t.Errorf("%s: %+v is %d, not %d", what, a, code, wantCode)
	}
	wantWorld(t, fmt.Sprintf("%s: behind %+v", what, a), got, want)
}

// seen is the world behind a look, by the chapter's words once more.
func seen(w impl.World) impl.World {
	w = cloneWorld(w)
	for host := range 3 {
		journal, is := impl.ReadJournal(w.Disk.Sectors[3+host])
		if !is || journal.Done || w.Seen[host] >= journal.Txn {
			continue
		}
		w.Seen[host] = journal.Txn
		if len(w.Log) < 400 {
			w.Log = append(w.Log, impl.Event{Host: host, Txn: journal.Txn, Op: journal.Op})
		}
	}
	return w
}

// wantAct asks for what an act changes, and for the look behind it.
func wantAct(t *testing.T, what string, w impl.World, a impl.Act, code int, change func(w *impl.World)) {
	t.Helper()
	want := cloneWorld(w)
	if change != nil {
		change(&want)
	}
	wantDid(t, what, w, a, seen(want), code)
}

// wantVoid asks for an act that is refused: nothing is changed, but it looks.
func wantVoid(t *testing.T, what string, w impl.World, a impl.Act) {
	t.Helper()
	wantAct(t, what, w, a, 3, nil)
}

func eachAct(n int, o impl.Op) []impl.Act {
	var out []impl.Act
	for kind := impl.AcStep; kind <= impl.AcLose; kind++ {
		out = append(out, impl.Act{Kind: kind, A: n, Op: o})
	}
	return out
}

func numbersOut(count int) []int { return []int{-1, -2, count, count + 1, math.MinInt, math.MaxInt} }

// unseenWorlds have a Journal each that nobody has looked at, so that what does not look can be told from what does.
func unseenWorlds() []impl.World {
	full := fullWorld()
	full.Seen[0] = 5
	fewer := cloneWorld(full)
	fewer.Log, fewer.Replies = fewer.Log[:9], []impl.Reply{replyOf(0, 9)}
	alone := downWorld()
	alone.Disk = landed(alone.Disk, journalOf(1, 77, outOf(9, 1)))
	return []impl.World{busyWorld(), full, fewer, alone}
}

func TestUnseenWorlds(t *testing.T) {
	for i, w := range append(unseenWorlds(), lostWorld()) {
		wantWorldOk(t, fmt.Sprint("unseen world ", i), w, true)
		if sameWorld(w, seen(w)) {
			t.Error("nothing is unseen in world", i)
		}
	}
}

func TestWorldDoWhereTheWorldIsNotRight(t *testing.T) {
	acts := append(eachAct(0, impl.Op{Kind: impl.OpDrain}), impl.Act{}, impl.Act{Kind: 7}, impl.Act{Kind: impl.AcStep, A: 3}, impl.Act{Kind: impl.AcLand, A: -1})
	for i, wrong := range wrongWorlds() {
		for _, a := range acts {
			got, code := impl.WorldDo(wrong.world, a)
			if code != 1 || !sameWorld(got, impl.World{}) {
				t.Errorf("%s: %+v is %d", wrong.what, a, code)
			}
		}
		if i%20 == 0 {
			wantDid(t, wrong.what, wrong.world, acts[i%len(acts)], impl.World{}, 1)
		}
	}
}

func TestWorldDoOfNoKind(t *testing.T) {
	for _, w := range unseenWorlds() {
		for _, kind := range []int{0, -1, 7, 8, math.MinInt, math.MaxInt} {
			for _, n := range []int{0, 2, -1, 3, 99} {
				wantDid(t, "a Kind that is none", w, impl.Act{Kind: kind, A: n, Op: impl.Op{Kind: impl.OpDrain}}, w, 1)
			}
		}
	}
}

func TestWorldDoOfNoHostAndOfNoWrite(t *testing.T) {
	for _, w := range unseenWorlds() {
		for _, kind := range []int{impl.AcStep, impl.AcCall, impl.AcCrash, impl.AcRise} {
			for _, n := range numbersOut(impl.MaxHosts) {
				wantDid(t, "there is no such host", w, impl.Act{Kind: kind, A: n, Op: impl.Op{Kind: impl.OpDrain}}, w, 2)
			}
		}
		for _, kind := range []int{impl.AcLand, impl.AcLose} {
			for _, n := range numbersOut(len(w.Disk.Pend)) {
				wantDid(t, "there is no such write", w, impl.Act{Kind: kind, A: n}, w, 2)
			}
		}
	}
	none := unseenWorlds()[3]
	for _, kind := range []int{impl.AcLand, impl.AcLose} {
		wantDid(t, "nothing is under way", none, impl.Act{Kind: kind}, none, 2)
	}
}

// wantStepped asks for a step of that host, as HostStep tells it.
func wantStepped(t *testing.T, what string, w impl.World, host int) (told bool) {
	t.Helper()
	h, d, reply, told := impl.HostStep(w.Hosts[host], w.Disk)
	want := cloneWorld(w)
	want.Hosts[host], want.Disk = h, d
	want = seen(want)
	if told && len(want.Replies) < 400 {
		reply.At = len(want.Log)
		want.Replies = append(want.Replies, reply)
	}
	// What a step is asked for besides its host is passed over.
	wantDid(t, what, w, impl.Act{Kind: impl.AcStep, A: host, Op: impl.Op{Kind: 99, Text: "none"}}, want, 0)
	return told
}

func TestStepsByHand(t *testing.T) {
	for _, w := range append(unseenWorlds(), busyWorld(), downWorld()) {
		for host := range impl.MaxHosts {
			wantStepped(t, "as it is", w, host)
		}
	}
	w := busyWorld()
	step := func(host int) impl.Act { return impl.Act{Kind: impl.AcStep, A: host} }
	wantAct(t, "it is not Up", w, step(0), 0, nil)
	wantAct(t, "it puts its Outs", w, step(1), 0, func(w *impl.World) {
		w.Disk = underWay(w.Disk, 1, w.Hosts[1].Plan.Outs...)
		w.Hosts[1].Pc = 6
	})
	w.Hosts[1] = upHost()
	wantAct(t, "it has no call", w, step(1), 0, nil)
	w.Hosts[1] = midHost(6)
	w.Hosts[1].Epoch = 1
	wantAct(t, "it is fenced", w, step(1), 0, func(w *impl.World) { w.Hosts[1] = downHost(1) })
	w.Hosts[1] = midHost(5)
	w.Disk = crowded(w.Disk, 2)
	wantAct(t, "the disk is full", w, step(1), 0, nil)
}

// What a step makes of the other hosts is nothing, and of the disk what it says.
func TestStepsOfAnOpRecoverByHand(t *testing.T) {
	w := busyWorld()
	w.Hosts[1] = recoverHost(2, 1)
	wantAct(t, "it fences", w, impl.Act{Kind: impl.AcStep, A: 1}, 0, func(w *impl.World) {
		w.Disk = withEpoch(w.Disk, 2, 8)
		w.Hosts[1].Pc = 2
	})
	w.Hosts[1] = recoverHost(2, 2)
	wantAct(t, "it puts what the Journal says", w, impl.Act{Kind: impl.AcStep, A: 1}, 0, func(w *impl.World) {
		w.Disk = underWay(w.Disk, 1, outOf(9, 1))
		w.Hosts[1].Pc = 3
	})
}

func TestRepliesByHand(t *testing.T) {
	read := impl.Op{Kind: impl.OpRead, Vol: 0, At: 0}
	for _, o := range []impl.Op{read, {Kind: impl.OpHold, Vol: 3}, {Kind: impl.OpTake, Vol: 0}, {Kind: impl.OpCreate, Vol: 0}} {
		w := downWorld()
		w.Hosts[1] = busyHost(o, 0)
		if !wantStepped(t, "a reply", w, 1) {
			t.Errorf("%+v is not answered", o)
		}
	}
	w := busyWorld()
	w.Hosts[1] = busyHost(read, 0)
	want := cloneWorld(w)
	want.Hosts[1] = upHost()
	want.Log = append(want.Log, impl.Event{Host: 2, Txn: 50, Op: impl.Op{Kind: 1}})
	want.Seen[2] = 50
	want.Replies = append(want.Replies, impl.Reply{Host: 1, Op: read, Data: "host one", At: 4})
	wantDid(t, "At counts what is seen behind the step", w, impl.Act{Kind: impl.AcStep, A: 1}, want, 0)
	w.Seen[2] = 50
	want.Log = want.Log[:3]
	want.Replies[3].At = 3
	wantDid(t, "nothing is seen behind the step", w, impl.Act{Kind: impl.AcStep, A: 1}, want, 0)
}

// The step that replies may itself land a Journal, which is seen ahead of the reply.
func TestAReplyBehindAJournalThatItsStepLands(t *testing.T) {
	w := downWorld()
	w.Seen = []int{0, 41, 500}
	w.Hosts[1] = midHost(8)
	w.Disk = underWay(w.Disk, 1, journalOf(1, 42, outOf(9, 2)))
	want := cloneWorld(w)
	want.Disk = landed(want.Disk, journalOf(1, 42, outOf(9, 2)))
	want.Disk.Pend = nil
	want.Hosts[1] = upHost()
	want.Log = append(want.Log, impl.Event{Host: 1, Txn: 42, Op: impl.Op{Kind: 1}})
	want.Seen[1] = 42
	want.Replies = append(want.Replies, impl.Reply{Host: 1, Op: writeOp(), At: 4})
	wantDid(t, "the last Flush lands a Journal", w, impl.Act{Kind: impl.AcStep, A: 1}, want, 0)
}

func TestRepliesAtTheirBound(t *testing.T) {
	for _, n := range []int{impl.MaxLog - 2, impl.MaxLog - 1, impl.MaxLog} {
		w := busyWorld()
		w.Hosts[1] = busyHost(impl.Op{Kind: impl.OpHold, Vol: 0}, 0)
		w.Replies = slices.Repeat([]impl.Reply{replyOf(1, 2)}, n)
		wantAct(t, fmt.Sprint("a reply behind ", n), w, impl.Act{Kind: impl.AcStep, A: 1}, 0, func(w *impl.World) {
			w.Hosts[1] = upHost()
			if n < impl.MaxLog {
				w.Replies = append(w.Replies, impl.Reply{Host: 1, Op: impl.Op{Kind: impl.OpHold, Vol: 0}, At: 4})
			}
		})
	}
	full := fullWorld()
	full.Hosts[1] = impl.Host{Id: 1, Epoch: impl.MaxEpoch, Up: true, Ready: true, Busy: true, Op: impl.Op{Kind: impl.OpDrop, Vol: 0}}
	full.Replies = full.Replies[:impl.MaxLog-1]
	full.Seen[0] = 8
	wantAct(t, "Log is full", full, impl.Act{Kind: impl.AcStep, A: 1}, 0, func(w *impl.World) {
		w.Hosts[1] = impl.Host{Id: 1, Epoch: impl.MaxEpoch, Up: true, Ready: true}
		w.Replies = append(w.Replies, impl.Reply{Host: 1, Op: impl.Op{Kind: impl.OpDrop, Vol: 0}, Code: impl.PlNotMine, At: impl.MaxLog})
	})
}

func TestCallsByHand(t *testing.T) {
	for host := range impl.MaxHosts {
		for _, k := range callKinds() {
			w := busyWorld()
			w.Hosts[host] = impl.Host{Id: host, Epoch: 2, Up: true, Txn: 6}
			o := firstCall(k)
			a := impl.Act{Kind: impl.AcCall, A: host, Op: o}
			if o == (impl.Op{Kind: impl.OpRecover, Vol: host}) {
				wantVoid(t, "an OpRecover of itself", w, a)
				continue
			}
			wantAct(t, "a call", w, a, 0, func(w *impl.World) { w.Hosts[host].Busy, w.Hosts[host].Op = true, o })
		}
	}
}

func TestCallsThatAreNotTaken(t *testing.T) {
	w := busyWorld()
	call := func(host int, o impl.Op) impl.Act { return impl.Act{Kind: impl.AcCall, A: host, Op: o} }
	for _, o := range []impl.Op{{Kind: impl.OpDrain}, writeOp(), {Kind: impl.OpRecover, Vol: 1}} {
		wantVoid(t, "it is not Up", w, call(0, o))
		wantVoid(t, "it is Busy", w, call(1, o))
	}
	w.Hosts[1] = upHost()
	for _, o := range wrongCalls() {
		if !impl.OpOk(o) {
			wantVoid(t, "it is no call", w, call(1, o))
		}
	}
}

func TestCrashes(t *testing.T) {
	for _, w := range append(unseenWorlds(), downWorld()) {
		for host := range impl.MaxHosts {
			a := impl.Act{Kind: impl.AcCrash, A: host, Op: writeOp()}
			if !w.Hosts[host].Up {
				wantVoid(t, "it is not Up", w, a)
				continue
			}
			wantAct(t, "it is Up", w, a, 0, func(w *impl.World) { w.Hosts[host] = impl.Host{Id: host} })
		}
	}
	for _, right := range rightHosts() {
		w := downWorld()
		h := right.host
		w.Disk.Epochs[h.Id] = impl.MaxEpoch
		w.Hosts[h.Id] = h
		code := 0
		if !h.Up {
			code = 3
		}
		wantAct(t, right.what, w, impl.Act{Kind: impl.AcCrash, A: h.Id}, code, func(w *impl.World) { w.Hosts[h.Id] = downHost(h.Id) })
	}
}

func TestRises(t *testing.T) {
	rise := func(host int) impl.Act { return impl.Act{Kind: impl.AcRise, A: host, Op: writeOp()} }
	for host := range impl.MaxHosts {
		w := busyWorld()
		w.Hosts[host] = downHost(host)
		epoch := w.Disk.Epochs[host] + 1
		wantAct(t, "it is not Up", w, rise(host), 0, func(w *impl.World) {
			w.Disk = withEpoch(w.Disk, host, epoch)
			w.Hosts[host] = risen(host, epoch)
		})
		w.Disk = withEpoch(w.Disk, host, impl.MaxEpoch)
		wantVoid(t, "it is at MaxEpoch", w, rise(host))
		w.Disk = withEpoch(w.Disk, host, impl.MaxEpoch-1)
		wantAct(t, "it comes to MaxEpoch", w, rise(host), 0, func(w *impl.World) {
			w.Disk = withEpoch(w.Disk, host, impl.MaxEpoch)
			w.Hosts[host] = risen(host, impl.MaxEpoch)
		})
	}
	for _, host := range []int{1, 2} {
		wantVoid(t, "it is Up", busyWorld(), rise(host))
	}
}

func TestLandings(t *testing.T) {
	w := busyWorld()
	for i, write := range w.Disk.Pend {
		a := impl.Act{Kind: impl.AcLand, A: i, Op: writeOp()}
		if i == 2 {
			wantVoid(t, "one of the same host to the same sector is ahead", w, a)
			continue
		}
		wantAct(t, "it lands", w, a, 0, func(w *impl.World) {
			w.Disk.Sectors[write.Sector] = write.Text
			w.Disk.Pend = without(w.Disk.Pend, i)
		})
	}
	for i := impl.Blocks; i < impl.MaxPend; i += 7 {
		wantAct(t, "many are under way, of others", fullWorld(), impl.Act{Kind: impl.AcLand, A: i}, 3, nil)
	}
}

// lostWorld is a busyWorld in which host 1 is Up with its epoch, and host 2 with an older one; host 0 is not Up.
func lostWorld() impl.World {
	w := busyWorld()
	w.Disk = underWay(w.Disk, 2, blockOut(3, "more"), blockOut(2, "most"))
	return w
}

func TestLosses(t *testing.T) {
	w := lostWorld()
	for i, write := range w.Disk.Pend {
		a := impl.Act{Kind: impl.AcLose, A: i, Op: writeOp()}
		if write.Host == 1 {
			wantVoid(t, "its host is Up with its epoch", w, a)
			continue
		}
		wantAct(t, "its host is not Up, or with another epoch", w, a, 0, func(w *impl.World) { w.Disk.Pend = without(w.Disk.Pend, i) })
	}
	for _, ready := range []bool{true, false} {
		w.Hosts = []impl.Host{{Id: 0, Epoch: 2, Up: true, Ready: ready}, {Id: 1, Epoch: 1, Up: true, Ready: ready}, {Id: 2, Epoch: 7, Up: true, Ready: ready}}
		for i, write := range w.Disk.Pend {
			a := impl.Act{Kind: impl.AcLose, A: i}
			if write.Host != 1 {
				wantVoid(t, "its host is Up with its epoch", w, a)
				continue
			}
			wantAct(t, "its host has another epoch", w, a, 0, func(w *impl.World) { w.Disk.Pend = without(w.Disk.Pend, i) })
		}
	}
	full := fullWorld()
	for host := range impl.MaxHosts {
		full.Hosts[host] = downHost(host)
		for i, write := range full.Disk.Pend {
			if a := (impl.Act{Kind: impl.AcLose, A: i}); i%7 > 0 {
				continue
			} else if write.Host > host {
				wantVoid(t, "many are under way", full, a)
			} else {
				wantAct(t, "many are under way", full, a, 0, func(w *impl.World) { w.Disk.Pend = without(w.Disk.Pend, i) })
			}
		}
	}
}

// An act that says what is there and what is not does so of its own world, not of one ahead of it.
func TestActsDoNotRemember(t *testing.T) {
	w := busyWorld()
	for _, other := range append(unseenWorlds(), impl.NewWorld(), impl.World{}) {
		for _, a := range append(eachAct(1, writeOp()), impl.Act{}) {
			impl.WorldDo(other, a)
			wantAct(t, "behind another world", w, impl.Act{Kind: impl.AcCrash, A: 1}, 0, func(w *impl.World) { w.Hosts[1] = downHost(1) })
		}
	}
}

// The chapter's words leave a world that is not right where what lands is no sector; nothing is done in that one.
func TestALandingThatSpoilsThePool(t *testing.T) {
	for sector := range impl.Sectors {
		w := busyWorld()
		w.Disk.Pend = nil
		w.Disk = underWay(w.Disk, 0, spoiling(sector))
		want := cloneWorld(w)
		want.Disk = landed(want.Disk, spoiling(sector))
		want.Disk.Pend = nil
		if sector != 5 {
			want.Log = append(want.Log, impl.Event{Host: 2, Txn: 50, Op: impl.Op{Kind: 1}})
			want.Seen[2] = 50
		}
		wantDid(t, "what lands is no sector", w, impl.Act{Kind: impl.AcLand}, want, 0)
		wantWorldOk(t, "what landed is no sector", want, false)
		wantDid(t, "what landed is no sector", want, impl.Act{Kind: impl.AcRise}, impl.World{}, 1)
	}
}

// A Journal may hold what is no call of a pool; it is told as the chapter says, though the world is not right then.
func TestAJournalWhoseOpIsNoCall(t *testing.T) {
	ops := []impl.Op{{Kind: 20, Vol: 99, To: 99, At: 99, Text: fullText()}, {Kind: impl.OpRead}, {Kind: impl.OpHold}, {Kind: impl.OpCreate, Vol: 4}, {Kind: impl.OpSnap}, {Kind: impl.OpDrain, Text: "t"}}
	for _, o := range ops {
		w := downWorld()
		text, _ := plainShow("j", impl.Journal{Txn: 9, Op: o, Outs: []impl.Out{outOf(9, 1)}})
		w.Disk = landed(w.Disk, impl.Out{Sector: 3, Text: text})
		want := cloneWorld(w)
		want.Log = append(want.Log, impl.Event{Host: 0, Txn: 9, Op: o})
		want.Seen[0] = 9
		wantWorldOk(t, "nobody has looked", w, true)
		wantDid(t, "a Journal's Op is no call", w, impl.Act{Kind: impl.AcStep}, want, 0)
		wantWorldOk(t, "an Event's Op is no call", want, false)
		w.Log, want.Log = slices.Repeat([]impl.Event{eventOf(1)}, impl.MaxLog), slices.Repeat([]impl.Event{eventOf(1)}, impl.MaxLog)
		wantDid(t, "a Journal's Op is no call, and Log is full", w, impl.Act{Kind: impl.AcStep}, want, 0)
		wantWorldOk(t, "Log was full", want, true)
	}
}

func TestRepliesKeepTheirData(t *testing.T) {
	for _, text := range []string{"", "x", "\x00\xff", strings.Repeat("b", impl.MaxBlock)} {
		w := downWorld()
		o := impl.Op{Kind: impl.OpRead, Vol: 2, At: 2}
		w.Hosts[1] = busyHost(o, 0)
		w.Disk = landed(w.Disk, blockOut(0, text))
		wantAct(t, "a read", w, impl.Act{Kind: impl.AcStep, A: 1}, 0, func(w *impl.World) {
			w.Hosts[1] = upHost()
			w.Replies = append(w.Replies, impl.Reply{Host: 1, Op: o, Data: text, At: 3})
		})
	}
}
