package tests

import (
	"fmt"
	"math/rand"
	"slices"
	"testing"

	"loop.example/g00761/impl"
)

// plainRound is the chapter's words once more, all turns of it. A world that is not right any more has no hosts.
func plainRound(w impl.World) impl.World {
	w = cloneWorld(w)
	do := func(kind int, host int) { w, _ = impl.WorldDo(w, impl.Act{Kind: kind, A: host}) }
	for host := range 3 {
		if len(w.Hosts) == 3 && w.Hosts[host].Up && w.Hosts[host].Epoch != w.Disk.Epochs[host] {
			do(impl.AcCrash, host)
		}
		if len(w.Hosts) == 3 && !w.Hosts[host].Up {
			do(impl.AcRise, host)
		}
		if len(w.Hosts) == 3 && w.Hosts[host].Up && !w.Hosts[host].Busy && !w.Hosts[host].Ready {
			w.Hosts[host].Busy, w.Hosts[host].Op = true, impl.Op{Kind: impl.OpRecover, Vol: host}
		}
	}
	for range 60 {
		for host := range 3 {
			do(impl.AcStep, host)
		}
	}
	return w
}

func plainCalm(w impl.World, rounds int) impl.World {
	if !plainWorldOk(w) {
		return impl.World{}
	}
	for n := 0; n < rounds && n < 12; n++ {
		w = plainRound(w)
	}
	return w
}

func wantPlainCalm(t *testing.T, what string, w impl.World, rounds int) impl.World {
	t.Helper()
	want := plainCalm(w, rounds)
	wantCalm(t, what, w, rounds, want)
	if got := impl.Settled(want); got != plainSettled(want) {
		t.Errorf("%s: behind %d rounds Settled is %v", what, rounds, got)
	}
	return want
}

// Each right host, at its number in a world in which it is alone or beside others.
func TestCalmOfEachRightHost(t *testing.T) {
	t.Parallel()
	for i, right := range rightHosts() {
		h := right.host
		w := upWorld()
		if i%2 == 1 {
			w = downWorld()
		}
		w.Disk.Epochs[h.Id] = min(max(1, h.Epoch)+i%3/2, impl.MaxEpoch)
		w.Hosts[h.Id] = h
		wantPlainCalm(t, right.what, w, 1)
		if t.Failed() {
			return
		}
	}
}

// Two are busy with an OpRecover of each other, or of the third one, at each Pc.
func TestCalmOfTakeoversAtEachPc(t *testing.T) {
	t.Parallel()
	r := rand.New(rand.NewSource(1101))
	for first := range 15 {
		for second := range 15 {
			pair := pairs()[r.Intn(6)]
			a, b := pair[0], pair[1]
			c := 3 - a - b
			ofA, ofB := b, a
			if r.Intn(3) == 0 {
				ofA, ofB = []int{c, b, a}[r.Intn(3)], []int{c, c, a, b}[r.Intn(4)]
			}
			w := claimed(claimed(upWorld(), a, ofA, first), b, ofB, second)
			switch r.Intn(4) {
			case 0:
				w.Hosts[c] = downHost(c)
			case 1:
				w = outdated(w, []int{a, b, c}[r.Intn(3)], 1)
			case 2:
				w = openWorld(w, r.Intn(3), 900)
			}
			what := fmt.Sprintf("%d recovers %d at %d, %d recovers %d at %d", a, ofA, first, b, ofB, second)
			wantPlainCalm(t, what, w, 1+r.Intn(2))
			if t.Failed() {
				return
			}
		}
	}
}

func TestManyCalmsAsSaid(t *testing.T) {
	t.Parallel()
	r := rand.New(rand.NewSource(1100))
	settled, none := 0, 0
	for range 260 {
		w := randomWorld(r)
		rounds := []int{-1, 0, 1, 1, 1, 2, 2, 3}[r.Intn(8)]
		end := wantPlainCalm(t, "random", w, rounds)
		if impl.Settled(end) {
			settled++
		}
		if len(end.Hosts) == 0 {
			none++
		}
		if t.Failed() {
			return
		}
	}
	if settled < 5 || none < 5 || none > 200 {
		t.Errorf("%d were settled, %d were no world", settled, none)
	}
}

// ends counts what the worlds were that came to an end, so that no kind of them goes without.
type ends struct {
	worlds, fallen, open, underWay, fenced, waiting, crossed, stillDone, late int
}

func (e *ends) note(w impl.World, end impl.World) {
	e.worlds++
	if allFallen(w) {
		e.fallen++
	}
	if len(w.Disk.Pend) > 0 {
		e.underWay++
	}
	if len(end.Log) > len(w.Log) {
		e.stillDone++
	}
	if !impl.Settled(impl.Calm(w, 1)) {
		e.late++
	}
	for i, h := range w.Hosts {
		journal, _ := impl.ReadJournal(w.Disk.Sectors[3+i])
		switch {
		case !h.Up && !journal.Done:
			e.open++
		case h.Up && h.Epoch != w.Disk.Epochs[i]:
			e.fenced++
		case h.Up && !h.Busy && !h.Ready:
			e.waiting++
		}
		if o := h.Op; o.Kind == impl.OpRecover && o.Vol != i && w.Hosts[o.Vol].Op.Kind == impl.OpRecover {
			e.crossed++
		}
	}
}

func (e *ends) want(t *testing.T) {
	t.Helper()
	for _, n := range []int{e.worlds, e.fallen, e.open, e.underWay, e.fenced, e.waiting, e.crossed, e.stillDone, e.late} {
		if n < 20 {
			t.Errorf("the worlds were %+v", *e)
			return
		}
	}
}

func allFallen(w impl.World) bool {
	return !slices.ContainsFunc(w.Hosts, func(h impl.Host) bool { return h.Up })
}

// wasUnderWay is whether the call may still be done: its host is at work on it, and its Journal has not landed.
func wasUnderWay(w impl.World, e impl.Event) bool {
	h := w.Hosts[e.Host]
	txn := h.Txn
	if h.Pc <= 3 {
		txn++
	}
	return h.Up && h.Busy && h.Pc <= 4 && h.Op == e.Op && txn == e.Txn && h.Epoch == w.Disk.Epochs[e.Host]
}

// wantEnd asks what the promise says of one world that a play tells.
func wantEnd(t *testing.T, what string, w impl.World) impl.World {
	t.Helper()
	end := impl.Calm(w, impl.CalmNeeds)
	wantSettled(t, what, end, true)
	wantTruth(t, what, end)
	if !beginsWith(end.Log, w.Log) || !beginsWith(end.Replies, w.Replies) {
		t.Errorf("%s: what was told is taken back", what)
	}
	said, _ := impl.Abstract(w.Disk.Sectors)
	for _, e := range end.Log[min(len(w.Log), len(end.Log)):] {
		next, done := plainDo(said, e.Op)
		if !done || !wasUnderWay(w, e) {
			t.Errorf("%s: %+v is done, and was not under way: %+v", what, e, w.Hosts[e.Host])
		}
		said = next
	}
	if says, ok := impl.Abstract(end.Disk.Sectors); !ok || !samePool(says, said) {
		t.Errorf("%s: the disk says %+v %v, not %+v", what, says, ok, said)
	}
	if allFallen(w) {
		wantSameSaid(t, what, w, end)
	}
	wantNothingLeft(t, what, end)
	return end
}

// wantSameSaid asks of a world in which all hosts had fallen: nothing was done behind that but that each recovered itself.
func wantSameSaid(t *testing.T, what string, w impl.World, end impl.World) {
	t.Helper()
	if !slices.Equal(end.Log, w.Log) || !slices.Equal(end.Seen, w.Seen) {
		t.Errorf("%s: all had fallen, and Log is %+v behind %+v", what, tail(end.Log), tail(w.Log))
	}
	var replies []impl.Reply
	for _, reply := range end.Replies[len(w.Replies):] {
		reply.At -= len(w.Log)
		replies = append(replies, reply)
	}
	slices.SortFunc(replies, func(a impl.Reply, b impl.Reply) int { return a.Host - b.Host })
	if !slices.Equal(replies, calmedWorld().Replies) {
		t.Errorf("%s: all had fallen, and the replies are %+v", what, replies)
	}
}

// wantNothingLeft asks of a settled world that nobody who is up has said that he recovers one, and that each lease is of one who is up.
func wantNothingLeft(t *testing.T, what string, w impl.World) {
	t.Helper()
	for host, h := range w.Hosts {
		journal, _ := impl.ReadJournal(w.Disk.Sectors[3+host])
		sec, _ := impl.ReadHost(w.Disk.Sectors[host])
		stands := sec.Rec != planNo && w.Disk.Epochs[sec.Rec.Host] == sec.Rec.Epoch
		if stands || h.Txn != journal.Txn {
			t.Errorf("%s: host %d is %+v, its sector %+v, its Journal %+v", what, host, h, sec, journal)
		}
	}
	for _, of := range leased() {
		vol, _ := impl.ReadVol(w.Disk.Sectors[impl.SectorOf(of[0], of[1])])
		group, _ := impl.ReadGroup(w.Disk.Sectors[impl.SectorOf(of[0], of[1])])
		nobodys := of[0] == 3 && vol.Lease == planNo || of[0] == 4 && group.Lease == planNo
		if held := impl.Holders(w, of[0], of[1]) == 1; held == nobodys {
			t.Errorf("%s: a lease, %v, is of one who is not up: %+v %+v", what, of, vol.Lease, group.Lease)
		}
	}
}

// chooseTakeover asks for takeovers, and for what these bring to an end.
func (p *player) chooseTakeover(h impl.Host) impl.Op {
	if p.r.Intn(2) == 0 {
		return impl.Op{Kind: impl.OpRecover, Vol: p.r.Intn(impl.MaxHosts)}
	}
	return p.chooseRich(h)
}

// goOn does one act, and answers with it.
func (p *player) goOn() impl.Act {
	a := p.choose()
	if n := p.r.Intn(100); n == 0 {
		for host := range impl.MaxHosts {
			p.world, _ = impl.WorldDo(p.world, impl.Act{Kind: impl.AcCrash, A: host})
			p.acts = append(p.acts, impl.Act{Kind: impl.AcCrash, A: host})
		}
	}
	p.world, _ = impl.WorldDo(p.world, a)
	p.acts = append(p.acts, a)
	return a
}

func TestManyPlaysComeToAnEnd(t *testing.T) {
	t.Parallel()
	r := rand.New(rand.NewSource(1102))
	met := &ends{}
	for i := range 45 {
		p := newPlayer(r)
		p.steady = i%2 == 0
		p.call = []func(h impl.Host) impl.Op{p.chooseCall, p.chooseRich, p.chooseTakeover}[i%3]
		if i%5 > 2 {
			p.acts = richScript()
			p.world, _ = impl.Play(p.acts)
		}
		for len(p.acts) < impl.MaxActs-4 && !t.Failed() {
			a := p.goOn()
			for range r.Intn(9) {
				if !p.goesOnWith(a) {
					break
				}
				p.world, _ = impl.WorldDo(p.world, a)
				p.acts = append(p.acts, a)
			}
			if r.Intn(5) == 0 || allFallen(p.world) && len(p.acts) > 100 {
				met.note(p.world, wantEnd(t, fmt.Sprint("behind ", len(p.acts), " acts"), p.world))
			}
		}
		w, _ := impl.Play(p.acts)
		wantWorld(t, "a play", w, p.world)
		end := wantEnd(t, "at the end of a play", w)
		wantCalm(t, "at the end of a play", w, impl.CalmNeeds, end)
		wantCalm(t, "once settled", end, 1+r.Intn(impl.MaxCalm), end)
		if t.Failed() {
			return
		}
	}
	met.want(t)
}

// So many rounds, and then so many more, are all of them together.
func TestRoundsTogether(t *testing.T) {
	t.Parallel()
	r := rand.New(rand.NewSource(1103))
	worlds := []impl.World{stuckWorld(), impl.NewWorld(), busyWorld(), lostWorld()}
	for range 30 {
		p := newPlayer(r)
		p.call = p.chooseTakeover
		for range 40 + r.Intn(200) {
			p.goOn()
		}
		worlds = append(worlds, p.world, randomWorld(r))
	}
	for _, w := range worlds {
		for range 3 {
			a, b := r.Intn(7), r.Intn(6)
			both := impl.Calm(w, a+b)
			wantWorld(t, fmt.Sprintf("%d rounds and %d", a, b), impl.Calm(impl.Calm(w, a), b), both)
			if impl.WorldOk(both) {
				wantWorld(t, "and no rounds", impl.Calm(both, 0), both)
			}
		}
	}
}

// A play of MaxActs acts, none of them in vain, and one whose Log is as long as it may be in so many.
func TestTheLongestPlaysComeToAnEnd(t *testing.T) {
	for _, cut := range []int{impl.MaxActs - 2, impl.MaxActs - 1, impl.MaxActs} {
		s := written(9)
		for len(s) < impl.MaxActs {
			s.ask(0, impl.Op{Kind: impl.OpWrite, Vol: 1, At: len(s) % 4, Text: fmt.Sprint(len(s))}, 9)
		}
		w := playOf(t, "many writes", s[:cut])
		end := wantEnd(t, "many writes", w)
		if len(w.Log) < 30 || len(end.Log) != 2+(impl.MaxActs-len(written(9))+9)/10 {
			t.Errorf("%d and then %d calls are done", len(w.Log), len(end.Log))
		}
	}
}

// Whatever falls at any step of a call, and whatever lands, the calm behind it leaves the call whole or not done.
func TestEachFallComesToAnEnd(t *testing.T) {
	t.Parallel()
	ahead := beforeTheFall(t)
	for _, o := range fallingCalls() {
		eachFall(t, ahead, o, func(what string, f fall, bits int, all int) {
			if bits%3 > 0 && bits != all {
				return
			}
			calm := fall{world: wantEnd(t, what, f.world)}
			calm.wantWhole(t, what, f, o)
			f.done(t, what, impl.Act{Kind: impl.AcCall, A: 1 + bits%2, Op: impl.Op{Kind: impl.OpRecover}})
			f.done(t, what, impl.Act{Kind: impl.AcCall, A: 2 - bits%2, Op: impl.Op{Kind: impl.OpRecover, Vol: 1 + bits%2}})
			f.steps(t, 1, bits%12)
			f.steps(t, 2, bits%5)
			wantEnd(t, what+"; two take over", f.world)
			f.crash(t, 1)
			f.crash(t, 2)
			wantEnd(t, what+"; and both fall", f.world)
		})
		if t.Failed() {
			return
		}
	}
}
