package tests

import (
	"fmt"
	"slices"
	"strings"
	"testing"

	"loop.example/g00761/impl"
)

// openOp is a host's Journal that is not Done, of this call.
func openOp(host int, txn int, o impl.Op) impl.Out {
	text, _ := plainShow("j", impl.Journal{Txn: txn, Op: o, Outs: []impl.Out{outOf(9, 1)}})
	return impl.Out{Sector: 3 + host, Text: text}
}

// lookWorld has just these Journals and Seen, and no Log.
func lookWorld(seen []int, journals ...impl.Out) impl.World {
	w := downWorld()
	w.Disk = landed(w.Disk, journals...)
	w.Log, w.Replies, w.Seen = nil, nil, seen
	return w
}

// wantLook asks for a look alone: behind a step of a host that is not Up, and behind its fall, which is refused.
func wantLook(t *testing.T, what string, w impl.World, seen []int, log ...impl.Event) {
	t.Helper()
	want := cloneWorld(w)
	want.Seen, want.Log = seen, append(want.Log, log...)
	wantDid(t, what, w, impl.Act{Kind: impl.AcStep, A: 1}, want, 0)
	wantDid(t, what, w, impl.Act{Kind: impl.AcCrash, A: 1}, want, 3)
	wantDid(t, what+", and looked at again", want, impl.Act{Kind: impl.AcStep, A: 2}, want, 0)
}

// poolCalls are calls of each kind that a Journal has.
func poolCalls() []impl.Op {
	out := []impl.Op{{Kind: impl.OpWrite, Vol: 3, At: 3, Text: fullText()}, {Kind: impl.OpWrite, Text: "\x00"}, {Kind: impl.OpWrite}}
	for kind := impl.OpCreate; kind <= impl.OpDrain; kind++ {
		out = append(out, someOps(kind)[0], tail(someOps(kind))[0])
	}
	return out
}

func TestALookAtOneJournal(t *testing.T) {
	for host := range impl.MaxHosts {
		for _, o := range poolCalls() {
			for _, txn := range []int{1, 2, 127, 128, impl.MaxTxn} {
				for _, ahead := range []int{0, txn - 1} {
					start, end := []int{impl.MaxTxn, 0, 7}, []int{impl.MaxTxn, 0, 7}
					start[host], end[host] = ahead, txn
					w := lookWorld(start, openOp(host, txn, o))
					wantLook(t, "above Seen", w, end, impl.Event{Host: host, Txn: txn, Op: o})
				}
			}
		}
	}
}

func TestALookAtAJournalThatWasSeen(t *testing.T) {
	for host := range impl.MaxHosts {
		for _, txn := range []int{1, 2, impl.MaxTxn - 1, impl.MaxTxn} {
			for _, ahead := range []int{txn, min(txn+1, impl.MaxTxn), impl.MaxTxn} {
				seen := []int{0, 0, 0}
				seen[host] = ahead
				wantLook(t, "at Seen and below", lookWorld(seen, openOp(host, txn, writeOp())), seen)
			}
		}
	}
}

func TestALookAtAJournalThatIsDone(t *testing.T) {
	for host := range impl.MaxHosts {
		for _, txn := range []int{0, 1, 2, 500, impl.MaxTxn} {
			for _, ahead := range []int{0, 1, 499, impl.MaxTxn} {
				seen := []int{3, 3, 3}
				seen[host] = ahead
				wantLook(t, "Done", lookWorld(seen, doneOf(host, txn)), seen)
			}
		}
	}
}

func TestALookGoesHostByHost(t *testing.T) {
	ops := []impl.Op{{Kind: impl.OpDrain}, writeOp(), {Kind: impl.OpSnap, Vol: 1}}
	for _, txns := range [][]int{{9, 5, 7}, {5, 7, 9}, {impl.MaxTxn, 1, 1}} {
		var journals []impl.Out
		var events []impl.Event
		for host, txn := range txns {
			journals = append(journals, openOp(host, txn, ops[host]))
			events = append(events, impl.Event{Host: host, Txn: txn, Op: ops[host]})
		}
		wantLook(t, "all three", lookWorld([]int{0, 0, 0}, journals...), txns, events...)
		for host := range impl.MaxHosts {
			seen := []int{0, 0, 0}
			seen[host] = txns[host]
			wantLook(t, "one was seen", lookWorld(seen, journals...), txns, eventsWithout(events, host)...)
			end := slices.Clone(txns)
			end[host] = 0
			done := append(slices.Clone(journals), doneOf(host, 500))
			wantLook(t, "one is Done", lookWorld([]int{0, 0, 0}, done...), end, eventsWithout(events, host)...)
		}
	}
}

func eventsWithout(events []impl.Event, host int) []impl.Event {
	return slices.DeleteFunc(slices.Clone(events), func(e impl.Event) bool { return e.Host == host })
}

func TestALookWhereLogIsFull(t *testing.T) {
	all := []impl.Event{{Host: 0, Txn: 4, Op: writeOp()}, {Host: 1, Txn: 3, Op: writeOp()}, {Host: 2, Txn: 2, Op: writeOp()}}
	for room := range 5 {
		w := lookWorld([]int{0, 0, 0}, openOp(0, 4, writeOp()), openOp(1, 3, writeOp()), openOp(2, 2, writeOp()))
		w.Log = slices.Repeat([]impl.Event{eventOf(7)}, impl.MaxLog-room)
		wantLook(t, fmt.Sprint("room for ", room), w, []int{4, 3, 2}, all[:min(room, 3)]...)
	}
}

// What is under way has not landed, also for a host that sees it.
func TestALookSeesNothingThatIsUnderWay(t *testing.T) {
	w := lookWorld([]int{0, 0, 0})
	w.Hosts[1] = upHost()
	w.Disk = underWay(w.Disk, 1, openOp(1, 42, writeOp()))
	w.Disk = underWay(w.Disk, 2, openOp(2, 9, writeOp()), openOp(1, 44, writeOp()))
	for _, a := range []impl.Act{{Kind: impl.AcStep, A: 1}, {Kind: impl.AcStep, A: 2}, {Kind: impl.AcRise}, {Kind: impl.AcCrash, A: 1}, {Kind: impl.AcLose, A: 1}} {
		got, code := didOf(t, "under way", w, a)
		if code != 0 || len(got.Log) != 0 || !slices.Equal(got.Seen, []int{0, 0, 0}) {
			t.Errorf("%+v is %d, and what is under way is seen: %+v %v", a, code, got.Log, got.Seen)
		}
	}
	got, _ := didOf(t, "it lands", w, impl.Act{Kind: impl.AcLand, A: 1})
	wantLogged(t, "it lands", got, impl.Event{Host: 2, Txn: 9, Op: writeOp()})
	got, _ = didOf(t, "it lands from another host", got, impl.Act{Kind: impl.AcLand, A: 1})
	wantLogged(t, "it lands from another host", got, impl.Event{Host: 2, Txn: 9, Op: writeOp()}, impl.Event{Host: 1, Txn: 44, Op: writeOp()})
	got, _ = didOf(t, "one of a lesser Txn lands", got, impl.Act{Kind: impl.AcLand, A: 0})
	wantLogged(t, "one of a lesser Txn lands", got, impl.Event{Host: 2, Txn: 9, Op: writeOp()}, impl.Event{Host: 1, Txn: 44, Op: writeOp()})
	if !slices.Equal(got.Seen, []int{0, 44, 9}) {
		t.Error("Seen is", got.Seen)
	}
}

func wantLogged(t *testing.T, what string, w impl.World, log ...impl.Event) {
	t.Helper()
	if !slices.Equal(w.Log, log) {
		t.Errorf("%s: Log is %+v, not %+v", what, w.Log, log)
	}
}

// Behind each act of which 0 or 3 is told it looks, and behind no other one.
func TestALookBehindEachAct(t *testing.T) {
	told := map[[2]int]bool{}
	for _, w := range append(unseenWorlds(), lostWorld()) {
		for kind := -1; kind <= 8; kind++ {
			for n := -1; n <= len(w.Disk.Pend); n++ {
				for _, o := range []impl.Op{{}, {Kind: impl.OpDrain}} {
					a := impl.Act{Kind: kind, A: n, Op: o}
					got, code := impl.WorldDo(w, a)
					looked := !slices.Equal(got.Seen, w.Seen)
					if looked != (code == 0 || code == 3) {
						t.Errorf("%+v is %d, and it looks: %v", a, code, looked)
					}
					told[[2]int{kind, code}] = true
				}
			}
		}
	}
	w := unseenWorlds()[3]
	w.Hosts[0] = impl.Host{Id: 0, Epoch: 1, Up: true}
	got, code := impl.WorldDo(w, impl.Act{Kind: impl.AcCall, Op: impl.Op{Kind: impl.OpDrain}})
	if code != 0 || slices.Equal(got.Seen, w.Seen) {
		t.Error("a call that is taken", code, got.Seen)
	}
	for _, want := range [][2]int{{0, 1}, {1, 0}, {1, 2}, {2, 2}, {2, 3}, {3, 0}, {3, 2}, {3, 3}, {4, 0}, {4, 2}, {4, 3}, {5, 0}, {5, 2}, {5, 3}, {6, 0}, {6, 2}, {6, 3}, {7, 1}} {
		if !told[want] {
			t.Errorf("no act of Kind %d was told %d", want[0], want[1])
		}
	}
}

// script writes acts one behind another.
type script []impl.Act

func (s *script) add(kind int, a int) { *s = append(*s, impl.Act{Kind: kind, A: a}) }

func (s *script) steps(host int, n int) {
	for range n {
		s.add(impl.AcStep, host)
	}
}

func (s *script) ask(host int, o impl.Op, steps int) {
	*s = append(*s, impl.Act{Kind: impl.AcCall, A: host, Op: o})
	s.steps(host, steps)
}

func (s *script) rise(host int, steps int) {
	s.add(impl.AcRise, host)
	s.steps(host, steps)
}

// written is a script at whose end host 0 has made volume 1, and has taken so many steps of a write there.
func written(steps int) script {
	var s script
	s.rise(0, 11)
	s.ask(0, impl.Op{Kind: impl.OpHold, Vol: 1}, 1)
	s.ask(0, impl.Op{Kind: impl.OpTake, Vol: 2}, 1)
	s.ask(0, impl.Op{Kind: impl.OpCreate, Vol: 1}, 9)
	s.ask(0, fallenWrite(), steps)
	return s
}

func fallenWrite() impl.Op {
	return impl.Op{Kind: impl.OpWrite, Vol: 1, At: 2, Text: "what is written"}
}

func playOf(t *testing.T, what string, s script) impl.World {
	t.Helper()
	w, codes := impl.Play(s)
	for i, code := range codes {
		if code != 0 {
			t.Fatalf("%s: act %d of %d, %+v, is %d", what, i, len(s), s[i], code)
		}
	}
	wantWorldOk(t, what, w, true)
	return w
}

func createdEvent() impl.Event {
	return impl.Event{Host: 0, Txn: 1, Op: impl.Op{Kind: impl.OpCreate, Vol: 1}}
}

func writtenEvent() impl.Event { return impl.Event{Host: 0, Txn: 2, Op: fallenWrite()} }

// A call is seen as soon as its Journal has landed, and no sooner.
func TestACallIsSeenAtItsFlush(t *testing.T) {
	for steps := range 10 {
		w := playOf(t, fmt.Sprint("behind ", steps, " steps"), written(steps))
		if steps < 5 {
			wantLogged(t, fmt.Sprint("behind ", steps, " steps"), w, createdEvent())
		} else {
			wantLogged(t, fmt.Sprint("behind ", steps, " steps"), w, createdEvent(), writtenEvent())
		}
		replies := []impl.Reply{
			{Host: 0, Op: impl.Op{Kind: impl.OpRecover}, At: 0}, {Host: 0, Op: impl.Op{Kind: impl.OpHold, Vol: 1}, At: 0},
			{Host: 0, Op: impl.Op{Kind: impl.OpTake, Vol: 2}, At: 0}, {Host: 0, Op: impl.Op{Kind: impl.OpCreate, Vol: 1}, At: 1},
		}
		if steps == 9 {
			replies = append(replies, impl.Reply{Host: 0, Op: fallenWrite(), At: 2})
		}
		if !slices.Equal(w.Replies, replies) {
			t.Errorf("behind %d steps the Replies are %+v", steps, w.Replies)
		}
	}
}

// wantSaid asks what the disk says at the one place that was written.
func wantSaid(t *testing.T, what string, w impl.World, text string) {
	t.Helper()
	p, ok := impl.Abstract(w.Disk.Sectors)
	want := emptyPool()
	want.Vols[1] = vol()
	if text != "" {
		want.Vols[1] = vol(nothing, nothing, text)
	}
	if !ok || !samePool(p, want) {
		t.Errorf("%s: the disk says %+v %v", what, p, ok)
	}
}

// Host 0 falls at each Pc; what it left under way lands, or is lost, or is fenced, and what has landed is seen.
func TestWhatLandsOfAHostThatFell(t *testing.T) {
	for steps := range 9 {
		ahead := append(written(steps), impl.Act{Kind: impl.AcCrash, A: 0})
		left := len(playOf(t, "it falls", ahead).Disk.Pend)
		for end := impl.AcRise; end <= impl.AcLose; end++ {
			what := fmt.Sprint("it falls behind ", steps, " steps; then ", end)
			s := slices.Clone(ahead)
			if end == impl.AcRise {
				s.rise(0, 0)
			} else {
				for range left {
					s.add(end, 0)
				}
			}
			w := playOf(t, what, s)
			log, text := []impl.Event{createdEvent()}, ""
			if steps > 4 || steps == 4 && end == impl.AcLand {
				log, text = append(log, writtenEvent()), fallenWrite().Text
			}
			wantLogged(t, what, w, log...)
			wantSaid(t, what, w, text)
			if len(w.Disk.Pend) != 0 || len(w.Replies) != 4 {
				t.Errorf("%s: %d writes are under way, and there are %d Replies", what, len(w.Disk.Pend), len(w.Replies))
			}
			wantRecoveredWorld(t, what, s, log, text)
		}
	}
}

// wantRecoveredWorld lets host 0 or host 1 bring to an end what host 0 left: nothing more is seen by that.
func wantRecoveredWorld(t *testing.T, what string, s script, log []impl.Event, text string) {
	t.Helper()
	own := slices.Clone(s)
	if s[len(s)-1].Kind != impl.AcRise {
		own.rise(0, 0)
	}
	own.steps(0, 14)
	other := slices.Clone(s)
	other.rise(1, 11)
	other.ask(1, impl.Op{Kind: impl.OpRecover}, 14)
	for who, s := range []script{own, other} {
		w := playOf(t, what, s)
		wantLogged(t, fmt.Sprint(what, ", recovered by ", who), w, log...)
		wantSaid(t, what, w, text)
		last := w.Replies[len(w.Replies)-1]
		if last != (impl.Reply{Host: who, Op: impl.Op{Kind: impl.OpRecover}, At: len(log)}) || w.Seen[0] != log[len(log)-1].Txn {
			t.Errorf("%s: recovered by %d, the last Reply is %+v, Seen %v", what, who, last, w.Seen)
		}
	}
}

// A Txn whose Journal never landed is given again, and the call that has it then is the one that is seen.
func TestATxnThatWasLostIsGivenAgain(t *testing.T) {
	s := written(4)
	s.add(impl.AcCrash, 0)
	s.rise(0, 11)
	s.ask(0, impl.Op{Kind: impl.OpHold, Vol: 1}, 1)
	s.ask(0, impl.Op{Kind: impl.OpDelete, Vol: 1}, 9)
	w := playOf(t, "given again", s)
	wantLogged(t, "given again", w, createdEvent(), impl.Event{Host: 0, Txn: 2, Op: impl.Op{Kind: impl.OpDelete, Vol: 1}})
}

// What lands behind the fall stands in the order in which it lands, not in that in which it was asked for.
func TestALateJournalStandsBehindAnEarlierOne(t *testing.T) {
	s := written(4)
	s.add(impl.AcCrash, 0)
	s.rise(2, 11)
	s.ask(2, impl.Op{Kind: impl.OpHold, Vol: 3}, 1)
	s.ask(2, impl.Op{Kind: impl.OpCreate, Vol: 3}, 9)
	s.add(impl.AcLand, 0)
	w := playOf(t, "late", s)
	wantLogged(t, "late", w, createdEvent(), impl.Event{Host: 2, Txn: 1, Op: impl.Op{Kind: impl.OpCreate, Vol: 3}}, writtenEvent())
	if !slices.Equal(w.Seen, []int{2, 0, 1}) {
		t.Error("Seen is", w.Seen)
	}
	if last := w.Replies[len(w.Replies)-1]; last.At != 2 {
		t.Error("the reply ahead of the landing tells", last.At)
	}
}

func TestTextsOfALog(t *testing.T) {
	for _, text := range []string{"", "\x00", strings.Repeat("\xff", impl.MaxBlock)} {
		s := written(9)
		s.ask(0, impl.Op{Kind: impl.OpWrite, Vol: 1, Text: text}, 9)
		wantLogged(t, "a text", playOf(t, "a text", s), createdEvent(), writtenEvent(), impl.Event{Host: 0, Txn: 3, Op: impl.Op{Kind: impl.OpWrite, Vol: 1, Text: text}})
	}
}
