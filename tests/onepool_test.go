package tests

import (
	"fmt"
	"math/rand"
	"slices"
	"strings"
	"testing"

	"loop.example/g00761/impl"
)

// wantTruth asks what the promise says of each world that a play tells.
func wantTruth(t *testing.T, what string, w impl.World) {
	t.Helper()
	if !impl.Explain(w) {
		t.Errorf("%s: Explain is false of %+v, %+v", what, w.Log, w.Replies)
	}
	if !impl.RefsOk(w.Disk.Sectors) {
		t.Errorf("%s: RefsOk is false, the Counts are %v", what, impl.Counts(impl.Settle(w.Disk.Sectors)))
	}
	for _, of := range leased() {
		if n := impl.Holders(w, of[0], of[1]); n > 1 {
			t.Errorf("%s: a lease, %v, has %d holders", what, of, n)
		}
	}
}

// wantPlainTruth asks the same by the second reading of the words.
func wantPlainTruth(t *testing.T, what string, w impl.World) {
	t.Helper()
	if !plainExplain(w) || !plainRefsOk(w.Disk.Sectors) {
		t.Errorf("%s: what is true is not told: %v %v", what, plainExplain(w), plainRefsOk(w.Disk.Sectors))
	}
	for _, of := range leased() {
		if n, want := impl.Holders(w, of[0], of[1]), plainHolders(w, of[0], of[1]); n != want {
			t.Errorf("%s: a lease, %v, has %d holders, not %d", what, of, n, want)
		}
	}
}

// truthMet counts what the plays have come to, so that none of it goes without.
type truthMet struct {
	reads, taken, shared, freed, freedAndHeld, held, open, recoveredBy int
}

func (m *truthMet) note(w impl.World) {
	counts := impl.Counts(w.Disk.Sectors)
	for _, n := range counts {
		if n > 1 {
			m.shared++
		}
	}
	for host := range impl.MaxHosts {
		frees, _ := impl.ReadFrees(w.Disk.Sectors[6+host])
		m.freed += len(frees)
		for _, b := range frees {
			if counts[b] > 1 {
				m.freedAndHeld++
			}
		}
		if journal, _ := impl.ReadJournal(w.Disk.Sectors[3+host]); !journal.Done && !w.Hosts[host].Up {
			m.open++
		}
	}
	for _, of := range leased() {
		m.held += impl.Holders(w, of[0], of[1])
	}
}

func (m *truthMet) noteReplies(w impl.World) {
	for _, reply := range w.Replies {
		switch {
		case reply.Code != impl.PlOk:
		case reply.Op.Kind == impl.OpRead:
			m.reads++
		case reply.Op.Kind == impl.OpRecover && reply.Op.Vol != reply.Host:
			m.recoveredBy++
		case reply.Op.Kind == impl.OpDrain && reply.At > 0 && w.Log[reply.At-1].Op.Kind == impl.OpDrain:
			m.taken++
		}
	}
}

func (m *truthMet) want(t *testing.T) {
	t.Helper()
	for _, n := range []int{m.reads, m.taken, m.shared, m.freed, m.freedAndHeld, m.held, m.open, m.recoveredBy} {
		if n < 20 {
			t.Errorf("the plays came to %+v", *m)
			return
		}
	}
}

// chooseRich takes the kinds in any order, and the first one of which some call will be done: copies and freed blocks come of it.
func (p *player) chooseRich(h impl.Host) impl.Op {
	turn := &plainTurn{host: h, disk: p.world.Disk}
	kinds := []int{impl.OpSnap, impl.OpSnap, impl.OpDrain, impl.OpDrain, impl.OpWrite, impl.OpWrite, impl.OpDiscard, impl.OpDelete, impl.OpCreate}
	kinds = append(kinds, impl.OpRead, impl.OpTake, impl.OpTake, impl.OpGive, impl.OpHold, impl.OpDrop, impl.OpRecover)
	p.r.Shuffle(len(kinds), func(i int, j int) { kinds[i], kinds[j] = kinds[j], kinds[i] })
	for _, kind := range kinds {
		ops := someOps(kind)
		for range 6 {
			o := ops[p.r.Intn(len(ops))]
			plan := impl.MakePlan(turn.view(), o)
			likely := len(plan.Outs) > 0 || kind == impl.OpRead && plan.Block >= 0 || kind == impl.OpRecover && !p.world.Hosts[o.Vol].Up
			switch kind {
			case impl.OpHold, impl.OpTake:
				likely = turn.lease(9+o.Vol+(kind-impl.OpHold)*2) == planNo
			case impl.OpDrop, impl.OpGive:
				likely = turn.lease(9+o.Vol+(kind-impl.OpDrop)*2) == turn.me()
			}
			if likely {
				return o
			}
		}
	}
	return impl.Op{Kind: impl.OpDrain}
}

func TestManyPlaysAreOnePool(t *testing.T) {
	t.Parallel()
	r := rand.New(rand.NewSource(1005))
	met := &truthMet{}
	for i := range 36 {
		p := newPlayer(r)
		p.watch = func(t *testing.T, w impl.World) {
			wantTruth(t, "in a play", w)
			met.note(w)
			if len(p.acts)%20 == 0 {
				wantPlainTruth(t, "in a play", w)
			}
		}
		if i%3 > 0 {
			p.steady, p.call = i%3 == 2, p.chooseRich
			for _, a := range richScript() {
				p.act(t, a)
			}
		}
		p.play(t)
		if t.Failed() {
			return
		}
		met.noteReplies(p.world)
		worldStays(t, "at the end of a play", p.world, func(w impl.World) { wantTruth(t, "at the end of a play", w) })
	}
	met.want(t)
}

// A Reply or a Log that is told otherwise than it was is not explained, in a play neither.
func TestPlaysThatAreToldOtherwise(t *testing.T) {
	r := rand.New(rand.NewSource(1006))
	told := 0
	for range 6 {
		p := newPlayer(r)
		p.play(t)
		for i, reply := range p.world.Replies {
			if reply.Op.Kind != impl.OpRead || reply.Code != impl.PlOk {
				continue
			}
			told++
			other := cloneWorld(p.world)
			other.Replies[i].Data += "."
			wantExplain(t, "a read was told something else", other, false)
		}
		for i, e := range p.world.Log {
			if e.Op.Kind == impl.OpDrain {
				continue
			}
			other := cloneWorld(p.world)
			other.Log = append(other.Log[:i], p.world.Log[i+1:]...)
			for j := range other.Replies {
				other.Replies[j].At = min(other.Replies[j].At, len(other.Log))
			}
			want := plainExplain(other)
			wantExplain(t, "a call was not seen", other, want)
			if !want {
				told++
			}
		}
	}
	if told < 20 {
		t.Errorf("%d things were told otherwise", told)
	}
}

// A fall is a world in which host 0 has fallen in the midst of a call, or has been left where it was.
type fall struct {
	world impl.World
	acts  int
}

func (f *fall) do(t *testing.T, a impl.Act) int {
	t.Helper()
	next, code := impl.WorldDo(f.world, a)
	f.world, f.acts = next, f.acts+1
	return code
}

func (f *fall) done(t *testing.T, what string, a impl.Act) {
	t.Helper()
	if code := f.do(t, a); code != 0 {
		t.Errorf("%s: %+v is %d", what, a, code)
	}
}

func (f *fall) steps(t *testing.T, host int, n int) {
	t.Helper()
	for range n {
		f.do(t, impl.Act{Kind: impl.AcStep, A: host})
	}
}

// untilReply lets the host step until it has been answered, and answers with the code.
func (f *fall) untilReply(t *testing.T, what string, host int) int {
	t.Helper()
	before := len(f.world.Replies)
	for range 20 {
		f.do(t, impl.Act{Kind: impl.AcStep, A: host})
		if n := len(f.world.Replies); n > before {
			return f.world.Replies[n-1].Code
		}
	}
	t.Errorf("%s: host %d is not answered: %+v", what, host, f.world.Hosts[host])
	return -1
}

func (f *fall) recover(t *testing.T, what string, host int, x int) {
	t.Helper()
	f.done(t, what, impl.Act{Kind: impl.AcCall, A: host, Op: impl.Op{Kind: impl.OpRecover, Vol: x}})
	if code := f.untilReply(t, what, host); code != impl.PlOk {
		t.Errorf("%s: host %d recovers host %d, and is told %d", what, host, x, code)
	}
}

func (f *fall) rise(t *testing.T, what string, host int, want int) {
	t.Helper()
	f.done(t, what, impl.Act{Kind: impl.AcRise, A: host})
	if code := f.untilReply(t, what, host); code != want {
		t.Errorf("%s: host %d rises, and is told %d, not %d", what, host, code, want)
	}
}

func (f *fall) crash(t *testing.T, host int) { f.do(t, impl.Act{Kind: impl.AcCrash, A: host}) }

// land lands those of a host's writes under way whose bit is set, and leaves the others where they are.
func (f *fall) land(t *testing.T, host int, bits int) {
	t.Helper()
	at := 0
	for at < len(f.world.Disk.Pend) {
		if f.world.Disk.Pend[at].Host != host {
			at++
			continue
		}
		if bits&1 == 1 {
			f.done(t, "a landing", impl.Act{Kind: impl.AcLand, A: at})
		} else {
			at++
		}
		bits >>= 1
	}
}

// richScript: all hosts are up. Host 0 has volumes 0, 1 and 2, of which 0 and 2 are On, and group 2. Of volume 0
// one block is in group 0, which host 1 has, and one in group 2; a block of group 2 is in host 0's list of freed ones.
func richScript() script {
	var s script
	for host := range impl.MaxHosts {
		s.rise(host, 11)
	}
	for i := range 3 {
		s.ask(0, impl.Op{Kind: impl.OpHold, Vol: i}, 1)
	}
	s.ask(0, impl.Op{Kind: impl.OpTake}, 1)
	s.ask(0, impl.Op{Kind: impl.OpCreate}, 9)
	s.ask(0, impl.Op{Kind: impl.OpWrite, Text: "block 0"}, 9)
	s.ask(0, impl.Op{Kind: impl.OpGive}, 1)
	s.ask(0, impl.Op{Kind: impl.OpTake, Vol: 2}, 1)
	s.ask(0, impl.Op{Kind: impl.OpWrite, At: 1, Text: "block 12"}, 9)
	s.ask(0, impl.Op{Kind: impl.OpCreate, Vol: 2}, 9)
	s.ask(0, impl.Op{Kind: impl.OpWrite, Vol: 2, At: 3, Text: "block 13"}, 9)
	s.ask(0, impl.Op{Kind: impl.OpWrite, Vol: 2, At: 2, Text: "block 14"}, 9)
	s.ask(0, impl.Op{Kind: impl.OpGive, Vol: 2}, 1)
	s.ask(0, impl.Op{Kind: impl.OpDiscard, Vol: 2, At: 3}, 9)
	s.ask(0, impl.Op{Kind: impl.OpTake, Vol: 2}, 1)
	s.ask(1, impl.Op{Kind: impl.OpTake}, 1)
	s.ask(1, impl.Op{Kind: impl.OpHold, Vol: 3}, 1)
	s.ask(1, impl.Op{Kind: impl.OpCreate, Vol: 3}, 9)
	s.ask(1, impl.Op{Kind: impl.OpWrite, Vol: 3, Text: "host 1"}, 9)
	return s
}

func beforeTheFall(t *testing.T) fall {
	s := richScript()
	w := playOf(t, "before the fall", s)
	wantTruth(t, "before the fall", w)
	if counts := impl.Counts(w.Disk.Sectors); !slices.Equal(counts, countsWith(0, 1, 12, 13, 14)) {
		t.Fatal("before the fall the blocks are held", counts)
	}
	return fall{world: w, acts: len(s)}
}

// fallingCalls are calls of host 0 that write, each in another way.
func fallingCalls() []impl.Op {
	return []impl.Op{
		{Kind: impl.OpCreate, Vol: 1}, {Kind: impl.OpDelete}, {Kind: impl.OpDelete, Vol: 2}, {Kind: impl.OpSnap, Vol: 2, To: 1}, {Kind: impl.OpDrain},
		{Kind: impl.OpWrite, Text: "over another's"}, {Kind: impl.OpWrite, At: 1, Text: "over an own one"}, {Kind: impl.OpWrite, At: 3, Text: "nothing is there"},
		{Kind: impl.OpDiscard}, {Kind: impl.OpDiscard, At: 1},
	}
}

// wantWhole asks that the call is done whole where its journal has landed, and else not at all; and for all else that is true.
func (f *fall) wantWhole(t *testing.T, what string, ahead fall, o impl.Op) {
	t.Helper()
	wantTruth(t, what, f.world)
	want, _ := impl.Abstract(ahead.world.Disk.Sectors)
	if len(f.world.Log) > len(ahead.world.Log) {
		want, _ = plainDo(want, o)
	}
	if said, ok := impl.Abstract(f.world.Disk.Sectors); !ok || !samePool(said, want) {
		t.Errorf("%s: the disk says %+v %v, not %+v", what, said, ok, want)
	}
	if f.acts > impl.MaxActs {
		t.Errorf("%s: there were %d acts", what, f.acts)
	}
}

// wantGivenBack asks that the journal of each host is Done, and that no lease is of a host that was fenced since.
func (f *fall) wantGivenBack(t *testing.T, what string, hosts ...int) {
	t.Helper()
	w := f.world
	for _, host := range hosts {
		if journal, _ := impl.ReadJournal(w.Disk.Sectors[3+host]); !journal.Done {
			t.Errorf("%s: the journal of host %d is not Done", what, host)
		}
		for sector := 9; sector < 16; sector++ {
			vol, _ := impl.ReadVol(w.Disk.Sectors[sector])
			group, _ := impl.ReadGroup(w.Disk.Sectors[sector])
			if lease := vol.Lease; lease.Host == host && lease.Epoch > 0 && lease.Epoch != w.Disk.Epochs[host] {
				t.Errorf("%s: sector %d is host %d's still", what, sector, host)
			}
			if lease := group.Lease; lease.Host == host && lease.Epoch > 0 && lease.Epoch != w.Disk.Epochs[host] {
				t.Errorf("%s: sector %d is host %d's still", what, sector, host)
			}
		}
	}
}

// eachFall hands on the world behind each step of the call at which host 0 falls, and each choice of what lands then.
func eachFall(t *testing.T, ahead fall, o impl.Op, each func(what string, f fall, bits int, all int)) {
	t.Helper()
	f := ahead
	f.done(t, "the call", impl.Act{Kind: impl.AcCall, Op: o})
	for steps := range 10 {
		fallen := f
		fallen.crash(t, 0)
		all := 1<<len(fallen.world.Disk.Pend) - 1
		for bits := range all + 1 {
			what := fmt.Sprintf("%+v falls behind %d steps, %b of %b land", o, steps, bits, all)
			next := fallen
			next.land(t, 0, bits)
			next.wantWhole(t, what, ahead, o)
			each(what, next, bits, all)
		}
		f.steps(t, 0, 1)
	}
	if n := len(f.world.Replies); len(f.world.Log) != len(ahead.world.Log)+1 || f.world.Replies[n-1].Op != o {
		t.Errorf("%+v is not done: %+v", o, f.world.Hosts[0])
	}
}

func TestAFallThatOneTakesOver(t *testing.T) {
	ahead := beforeTheFall(t)
	for _, o := range fallingCalls() {
		eachFall(t, ahead, o, func(what string, f fall, bits int, all int) {
			own := f
			own.rise(t, what, 0, impl.PlOk)
			own.wantWhole(t, what+"; it rises", ahead, o)
			own.wantGivenBack(t, what+"; it rises", 0)
			other := f
			other.recover(t, what, 1, 0)
			other.wantWhole(t, what+"; host 1 recovers it", ahead, o)
			other.wantGivenBack(t, what+"; host 1 recovers it", 0)
			other.recover(t, what, 2, 0)
			other.wantWhole(t, what+"; host 2 recovers it once more", ahead, o)
			other.rise(t, what, 0, impl.PlOk)
			other.wantWhole(t, what+"; it rises behind both", ahead, o)
			other.wantGivenBack(t, what+"; it rises behind both", 0)
			if other.world.Hosts[0].Txn != own.world.Hosts[0].Txn || len(other.world.Log) != len(own.world.Log) {
				t.Errorf("%s: who recovers it makes it another one: %+v and %+v", what, other.world.Hosts[0], own.world.Hosts[0])
			}
		})
		if t.Failed() {
			return
		}
	}
}

// Who takes over falls too, behind each step, and all or nothing lands of that; another one takes over both.
func TestAFallOfWhoTakesOver(t *testing.T) {
	t.Parallel()
	ahead := beforeTheFall(t)
	for _, o := range fallingCalls() {
		eachFall(t, ahead, o, func(what string, f fall, bits int, all int) {
			if bits != 0 && bits != all {
				return
			}
			f.done(t, what, impl.Act{Kind: impl.AcCall, A: 1, Op: impl.Op{Kind: impl.OpRecover}})
			for k := 0; f.world.Hosts[1].Busy && !t.Failed(); k++ {
				for _, lands := range []int{0, -1} {
					what := fmt.Sprint(what, "; host 1 falls behind ", k, " steps, and ", lands, " lands")
					second := f
					second.crash(t, 1)
					second.land(t, 1, lands)
					second.wantWhole(t, what, ahead, o)
					second.wantTakenOver(t, what, ahead, o)
					if len(second.world.Disk.Pend) == 0 && lands == 0 {
						break
					}
				}
				f.steps(t, 1, 1)
			}
		})
		if t.Failed() {
			return
		}
	}
}

// wantTakenOver lets host 2 recover host 1, which fell, and host 0, of which host 1 was the one that recovered it.
func (f *fall) wantTakenOver(t *testing.T, what string, ahead fall, o impl.Op) {
	t.Helper()
	third := *f
	third.recover(t, what, 2, 1)
	third.wantWhole(t, what+"; host 2 recovers host 1", ahead, o)
	third.recover(t, what, 2, 0)
	third.wantWhole(t, what+"; and host 0", ahead, o)
	third.wantGivenBack(t, what+"; host 2 recovers both", 0, 1)
}

// Until who took over is fenced, nobody else recovers the host, nor does it itself.
func TestAFallWhileWhoTakesOverIsNotFenced(t *testing.T) {
	ahead := beforeTheFall(t)
	for _, o := range []impl.Op{{Kind: impl.OpDelete}, {Kind: impl.OpWrite, Text: "over another's"}, {Kind: impl.OpDrain}} {
		for steps := 3; steps <= 8; steps++ {
			for k := 1; k <= 13; k++ {
				what := fmt.Sprintf("%+v falls behind %d steps, and host 1 behind %d", o, steps, k)
				f := ahead
				f.done(t, what, impl.Act{Kind: impl.AcCall, Op: o})
				f.steps(t, 0, steps)
				f.crash(t, 0)
				f.done(t, what, impl.Act{Kind: impl.AcCall, A: 1, Op: impl.Op{Kind: impl.OpRecover}})
				f.steps(t, 1, k)
				if !f.world.Hosts[1].Busy {
					continue
				}
				f.crash(t, 1)
				f.done(t, what, impl.Act{Kind: impl.AcCall, A: 2, Op: impl.Op{Kind: impl.OpRecover}})
				if code := f.untilReply(t, what, 2); code != impl.PlBusy {
					t.Errorf("%s: host 2 recovers host 0, and is told %d", what, code)
				}
				f.rise(t, what, 0, impl.PlBusy)
				f.wantWhole(t, what, ahead, o)
				f.land(t, 1, -1)
				f.wantWhole(t, what+"; it lands late", ahead, o)
				f.rise(t, what, 1, impl.PlOk)
				f.crash(t, 0)
				f.rise(t, what, 0, impl.PlOk)
				f.wantWhole(t, what+"; both rise", ahead, o)
				f.wantGivenBack(t, what+"; both rise", 0, 1)
			}
		}
		if t.Failed() {
			return
		}
	}
}

// A host that is taken over while it is up, and steps on, falls as soon as it writes, and has done its call whole or not at all.
func TestAHostThatIsTakenOverWhileItIsUp(t *testing.T) {
	t.Parallel()
	ahead := beforeTheFall(t)
	for _, o := range fallingCalls() {
		for steps := range 9 {
			for behind := range 15 {
				what := fmt.Sprintf("%+v is taken over behind %d steps, and steps on behind %d of these", o, steps, behind)
				f := ahead
				f.done(t, what, impl.Act{Kind: impl.AcCall, Op: o})
				f.steps(t, 0, steps)
				f.done(t, what, impl.Act{Kind: impl.AcCall, A: 1, Op: impl.Op{Kind: impl.OpRecover}})
				f.steps(t, 1, behind)
				f.steps(t, 0, 9-steps)
				f.wantWhole(t, what, ahead, o)
				if f.world.Hosts[1].Busy {
					f.untilReply(t, what, 1)
				}
				f.steps(t, 0, 3)
				f.wantWhole(t, what+"; it is taken over", ahead, o)
				f.wantGivenBack(t, what, 0)
				read := impl.Act{Kind: impl.AcCall, Op: impl.Op{Kind: impl.OpRead}}
				if f.do(t, read) == 0 {
					f.untilReply(t, what, 0)
					f.wantWhole(t, what+"; it reads", ahead, o)
				}
			}
		}
		if t.Failed() {
			return
		}
	}
}

// What is read by a host that was fenced, and does not know it yet, stood there; once its lease is given back, it is told so.
func TestAReadByAHostThatIsFenced(t *testing.T) {
	told := map[int]int{}
	ahead := beforeTheFall(t)
	for behind := range 15 {
		f := ahead
		f.done(t, "it is recovered", impl.Act{Kind: impl.AcCall, A: 1, Op: impl.Op{Kind: impl.OpRecover}})
		f.steps(t, 1, behind)
		f.done(t, "it reads", impl.Act{Kind: impl.AcCall, Op: impl.Op{Kind: impl.OpRead}})
		code := f.untilReply(t, "it reads", 0)
		told[code]++
		what := fmt.Sprint("it reads behind ", behind, " steps")
		wantTruth(t, what, f.world)
		last := f.world.Replies[len(f.world.Replies)-1]
		if code == impl.PlOk && last.Data != "block 0" || code != impl.PlOk && last.Data != "" {
			t.Errorf("%s: it is told %+v", what, last)
		}
	}
	if told[impl.PlOk] < 3 || told[impl.PlNotMine] < 3 || len(told) != 2 {
		t.Errorf("it was told %v", told)
	}
}

// wantSpoilt asks that what a host does wrong is seen: this world has one sector other than there.
func wantSpoilt(t *testing.T, what string, w impl.World, out impl.Out, explained bool, counted bool) {
	t.Helper()
	w = cloneWorld(w)
	w.Disk = landed(w.Disk, out)
	wantExplain(t, what, w, explained)
	wantRefsOk(t, what, w.Disk.Sectors, counted)
}

func TestWhatWouldBeWrongBehindAPlay(t *testing.T) {
	w := beforeTheFall(t).world
	wantSpoilt(t, "a block is lost", w, refsOuts(countsWith(0, 1, 2))[0], true, false)
	wantSpoilt(t, "a block that is held is free", w, refsOuts(countsWith(0))[0], true, false)
	wantSpoilt(t, "a block is freed that was not", w, freesOut(0, 12, 13), true, false)
	wantSpoilt(t, "a block that was freed is forgotten", w, freesOut(0), true, false)
	wantSpoilt(t, "a block has another text", w, blockOut(12, "other"), false, true)
	wantSpoilt(t, "a block that nobody holds has another text", w, blockOut(5, "other"), true, true)
	wantSpoilt(t, "a block that was freed has another text", w, blockOut(13, "other"), true, true)
	wantSpoilt(t, "a place has nothing any more", w, mapOut(0, 0, -1), false, false)
	wantSpoilt(t, "a volume is not on any more", w, impl.Out{Sector: 12, Text: freshPool()[12]}, false, false)
	wantSpoilt(t, "a journal that is open writes nothing else", w, journalOf(1, 9, impl.Out{Sector: 9, Text: w.Disk.Sectors[9]}), true, true)
	if !strings.Contains(w.Disk.Sectors[16+13], "block 13") {
		t.Error("what is freed stands there no more")
	}
}
