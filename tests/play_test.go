package tests

import (
	"fmt"
	"math"
	"math/rand"
	"slices"
	"testing"

	"loop.example/g00761/impl"
)

// playedOf asks twice, that the acts and the room behind them stay, and that nothing is shared.
func playedOf(t *testing.T, what string, acts []impl.Act) (impl.World, []int) {
	t.Helper()
	room := roomyList(acts, impl.Act{Kind: -7})
	before := allOf(room)
	first, codes := impl.Play(room)
	second, again := impl.Play(room)
	if !slices.Equal(room[:cap(room)], before) {
		t.Errorf("%s: Play changed its acts, or the room behind them", what)
	}
	if !sameWorld(first, second) || !slices.Equal(codes, again) {
		t.Errorf("%s: Play answers otherwise the second time", what)
	}
	kept, keptCodes := cloneWorld(first), slices.Clone(codes)
	wantOwnWorld(t, what, second)
	fill(again, -99)
	fill(room, impl.Act{Kind: -99})
	if !sameWorld(first, kept) || !slices.Equal(codes, keptCodes) {
		t.Errorf("%s: two answers of Play share memory", what)
	}
	fill(codes, -99)
	if !sameWorld(first, kept) {
		t.Errorf("%s: world and codes share memory", what)
	}
	return kept, keptCodes
}

func wantPlay(t *testing.T, what string, acts []impl.Act, want impl.World, wantCodes []int) {
	t.Helper()
	got, codes := playedOf(t, what, acts)
	if !slices.Equal(codes, wantCodes) {
		t.Errorf("%s: the codes are %v, not %v", what, codes, wantCodes)
	}
	wantWorld(t, what, got, want)
}

func TestPlayOfNoActs(t *testing.T) {
	wantPlay(t, "nil", nil, impl.NewWorld(), nil)
	wantPlay(t, "an empty list", []impl.Act{}, impl.NewWorld(), nil)
}

func TestPlayOfMaxActs(t *testing.T) {
	for _, a := range []impl.Act{{}, {Kind: 7}, {Kind: impl.AcStep, A: 1}, {Kind: impl.AcRise, A: 2}, {Kind: impl.AcLand}} {
		want := impl.NewWorld()
		var codes []int
		for n := range impl.MaxActs + 1 {
			if n == 0 || n == 1 || n >= impl.MaxActs-1 {
				wantPlay(t, fmt.Sprint(n, " acts"), slices.Repeat([]impl.Act{a}, n), want, codes)
			}
			next, code := plainWorldDo(want, a)
			want, codes = next, append(codes, code)
		}
	}
	for _, n := range []int{impl.MaxActs + 1, impl.MaxActs + 2, 5000} {
		for _, a := range []impl.Act{{}, {Kind: impl.AcStep}, {Kind: impl.AcRise}} {
			wantPlay(t, fmt.Sprint(n, " acts"), slices.Repeat([]impl.Act{a}, n), impl.World{}, nil)
		}
	}
}

func TestPlayOfActsThatAreRefused(t *testing.T) {
	drain := impl.Op{Kind: impl.OpDrain}
	acts := []impl.Act{
		{Kind: impl.AcStep}, {Kind: impl.AcCrash}, {Kind: impl.AcCall, Op: drain}, {Kind: impl.AcLand}, {Kind: impl.AcLose}, {}, {Kind: 7},
		{Kind: impl.AcStep, A: 3}, {Kind: impl.AcStep, A: -1}, {Kind: impl.AcRise, A: 3}, {Kind: impl.AcRise, A: math.MinInt}, {Kind: math.MaxInt, A: math.MaxInt},
	}
	wantPlay(t, "refused", acts, impl.NewWorld(), []int{0, 3, 3, 2, 2, 1, 1, 2, 2, 2, 2, 1})
	up := impl.NewWorld()
	up.Disk.Epochs[1], up.Hosts[1] = 2, risen(1, 2)
	acts = []impl.Act{{Kind: impl.AcRise, A: 1}, {Kind: impl.AcRise, A: 1}, {Kind: impl.AcCall, A: 1, Op: drain}}
	wantPlay(t, "up", acts, up, []int{0, 3, 3})
	down := cloneWorld(up)
	down.Hosts[1] = downHost(1)
	wantPlay(t, "down again", append(acts, impl.Act{Kind: impl.AcCrash, A: 1}, impl.Act{Kind: impl.AcCrash, A: 1}), down, []int{0, 3, 3, 0, 3})
}

// A small play whose end is written by hand, sector by sector.
func TestPlayByHand(t *testing.T) {
	mine := impl.Lease{Host: 0, Epoch: 2}
	want := impl.NewWorld()
	want.Disk.Epochs[0] = 2
	want.Disk.Sectors = changed(freshPool(),
		doneOf(0, 2),
		impl.Out{Sector: 10, Text: impl.ShowVol(impl.VolSec{Lease: mine, On: true, Map: places(-1, -1, 12)})},
		impl.Out{Sector: 15, Text: impl.ShowGroup(impl.GroupSec{Lease: mine, Refs: refs(1)})},
		blockOut(12, fallenWrite().Text),
	)
	want.Hosts[0] = impl.Host{Id: 0, Epoch: 2, Up: true, Ready: true, Txn: 2}
	want.Log = []impl.Event{createdEvent(), writtenEvent()}
	want.Seen[0] = 2
	want.Replies = []impl.Reply{
		{Op: impl.Op{Kind: impl.OpRecover}}, {Op: impl.Op{Kind: impl.OpHold, Vol: 1}}, {Op: impl.Op{Kind: impl.OpTake, Vol: 2}},
		{Op: impl.Op{Kind: impl.OpCreate, Vol: 1}, At: 1}, {Op: fallenWrite(), At: 2},
	}
	s := written(9)
	wantPlay(t, "written", s, want, make([]int, len(s)))
	s.ask(0, impl.Op{Kind: impl.OpRead, Vol: 1, At: 2}, 1)
	s.ask(0, impl.Op{Kind: impl.OpWrite, Vol: 0}, 1)
	want.Replies = append(want.Replies,
		impl.Reply{Op: impl.Op{Kind: impl.OpRead, Vol: 1, At: 2}, Data: fallenWrite().Text, At: 2},
		impl.Reply{Op: impl.Op{Kind: impl.OpWrite, Vol: 0}, Code: impl.PlNotMine, At: 2},
	)
	wantPlay(t, "and read", s, want, make([]int, len(s)))
}

// plainWorldDo is the chapter's words once more, on hosts and a disk that are asked as the other chapters have them.
func plainWorldDo(w impl.World, a impl.Act) (impl.World, int) {
	if !plainWorldOk(w) {
		return impl.World{}, 1
	}
	if a.Kind < 1 || a.Kind > 6 {
		return w, 1
	}
	if a.A < 0 || a.Kind <= 4 && a.A > 2 || a.Kind > 4 && a.A >= len(w.Disk.Pend) {
		return w, 2
	}
	w = cloneWorld(w)
	host := a.A
	if a.Kind == impl.AcLose {
		host = w.Disk.Pend[a.A].Host
	}
	done, told, reply := true, false, impl.Reply{}
	switch h := &w.Hosts[host%3]; a.Kind {
	case impl.AcStep:
		*h, w.Disk, reply, told = impl.HostStep(*h, w.Disk)
	case impl.AcCall:
		*h, done = impl.HostCall(*h, a.Op)
	case impl.AcCrash:
		done = !sameHost(*h, downHost(host))
		*h = downHost(host)
	case impl.AcRise:
		*h, w.Disk, done = impl.HostRise(*h, w.Disk)
	case impl.AcLand:
		w.Disk, done = impl.Land(w.Disk, a.A)
	case impl.AcLose:
		if done = h.Epoch != w.Disk.Pend[a.A].Epoch; done {
			w.Disk.Pend = without(w.Disk.Pend, a.A)
		}
	}
	w = seen(w)
	if reply.At = len(w.Log); told && len(w.Replies) < 400 {
		w.Replies = append(w.Replies, reply)
	}
	if !done {
		return w, 3
	}
	return w, 0
}

// randomSeen is beside the Txn that stands in a host's Journal, mostly.
func randomSeen(r *rand.Rand, d impl.Disk, host int) int {
	journal, _ := impl.ReadJournal(d.Sectors[3+host])
	txn := []int{0, journal.Txn - 1, journal.Txn - 1, journal.Txn, journal.Txn + 1, impl.MaxTxn}[r.Intn(6)]
	return min(max(txn, 0), impl.MaxTxn)
}

// randomWorld is right mostly; any number of it may be at its bound.
func randomWorld(r *rand.Rand) impl.World {
	w := impl.World{Disk: randomStepDisk(r, r.Intn(impl.MaxHosts))}
	for host := range impl.MaxHosts {
		h := downHost(host)
		if r.Intn(4) > 0 {
			h = randomStepHost(r, host, w.Disk)
		}
		w.Hosts = append(w.Hosts, h)
		w.Seen = append(w.Seen, randomSeen(r, w.Disk, host))
	}
	for i := range []int{0, 1, 5, impl.MaxLog - 2, impl.MaxLog - 1, impl.MaxLog}[r.Intn(6)] {
		w.Log = append(w.Log, eventOf(i))
	}
	for i := range []int{0, 1, 5, impl.MaxLog - 1, impl.MaxLog}[r.Intn(5)] {
		w.Replies = append(w.Replies, replyOf(i, r.Intn(len(w.Log)+1)))
	}
	return w
}

func randomAct(r *rand.Rand, w impl.World) impl.Act {
	a := impl.Act{Kind: 1 + r.Intn(6), A: r.Intn(impl.MaxHosts)}
	if r.Intn(30) == 0 {
		a.Kind = []int{0, 7, -1, 99}[r.Intn(4)]
	}
	if a.Kind >= impl.AcLand && len(w.Disk.Pend) > 0 {
		a.A = r.Intn(len(w.Disk.Pend))
	}
	if r.Intn(30) == 0 {
		a.A = []int{-1, impl.MaxHosts, len(w.Disk.Pend), 99}[r.Intn(4)]
	}
	if ops := eachKind(); a.Kind == impl.AcCall || r.Intn(5) == 0 {
		a.Op = ops[r.Intn(len(ops))]
	}
	return a
}

// staysRight asks that a right world stays right, but for the three places where the words of the document make it otherwise:
// what lands is no sector, what is seen is no call of a pool, and an OpRecover at MaxTxn.
func staysRight(t *testing.T, what string, w impl.World, next impl.World) {
	t.Helper()
	pool := impl.PoolOk(next.Disk.Sectors) && !slices.ContainsFunc(next.Log, func(e impl.Event) bool { return !impl.OpOk(e.Op) || e.Op.Kind > impl.OpDrain })
	edge := slices.ContainsFunc(w.Hosts, func(h impl.Host) bool {
		return h.Busy && h.Op.Kind == impl.OpRecover && h.Pc == 0 && h.Txn == impl.MaxTxn
	})
	if impl.WorldOk(w) && pool && !edge && !impl.WorldOk(next) {
		t.Errorf("%s: a right world is not right any more", what)
	}
}

func TestManyActsAsSaid(t *testing.T) {
	t.Parallel()
	r := rand.New(rand.NewSource(900))
	met := map[[2]int]int{}
	for range 2500 {
		w := randomWorld(r)
		for range 3 {
			a := randomAct(r, w)
			want, code := plainWorldDo(w, a)
			wantDid(t, "random", w, a, want, code)
			staysRight(t, "random", w, want)
			met[[2]int{a.Kind, code}]++
			w = want
		}
		if t.Failed() {
			return
		}
	}
	for kind := impl.AcStep; kind <= impl.AcLose; kind++ {
		for code := range 4 {
			if n := met[[2]int{kind, code}]; n < 20 && !(kind == impl.AcStep && code == 3) {
				t.Errorf("Kind %d was told %d %d times alone", kind, code, n)
			}
		}
	}
}

// A player writes a script act by act, as the world that it has so far lets something happen.
type player struct {
	r     *rand.Rand
	world impl.World
	acts  []impl.Act
	codes []int
	put   map[impl.Event]bool
	pool  impl.Pool
	falls int
	late  int
	// What a play may have besides: few falls, other calls, and what is asked behind each act.
	steady bool
	call   func(h impl.Host) impl.Op
	watch  func(t *testing.T, w impl.World)
}

func (p *player) choose() impl.Act {
	host := p.r.Intn(impl.MaxHosts)
	h := p.world.Hosts[host]
	n := p.r.Intn(60)
	switch {
	case n == 0:
		return impl.Act{Kind: p.r.Intn(9) - 1, A: p.r.Intn(5) - 1}
	case n == 1, h.Pc == 4 && n < 40 && !p.steady, h.Up && !h.Busy && !h.Ready:
		return impl.Act{Kind: impl.AcCrash, A: host}
	case n < 8 && len(p.world.Disk.Pend) > 0:
		return impl.Act{Kind: impl.AcLand + n/7, A: p.r.Intn(len(p.world.Disk.Pend))}
	case !h.Up && n < 30:
		return impl.Act{Kind: impl.AcRise, A: host}
	case h.Up && !h.Busy:
		return impl.Act{Kind: impl.AcCall, A: host, Op: p.call(h)}
	}
	return impl.Act{Kind: impl.AcStep, A: host}
}

// chooseCall tries some calls for one that will be done, since most would be refused.
func (p *player) chooseCall(h impl.Host) impl.Op {
	turn := &plainTurn{host: h, disk: p.world.Disk}
	var o impl.Op
	for range 12 {
		ops := someOps([]int{1, 1, 2, 3, 3, 3, 3, 4, 5, 6, 7, 7, 8, 8, 9, 10, 10, 11, 12}[p.r.Intn(19)])
		o = ops[p.r.Intn(len(ops))]
		switch plan := impl.MakePlan(turn.view(), o); o.Kind {
		case impl.OpHold, impl.OpTake:
			if turn.lease(9+o.Vol+(o.Kind-impl.OpHold)*2) == planNo {
				return o
			}
		case impl.OpRead:
			if plan.Code == impl.PlOk && p.r.Intn(3) == 0 {
				return o
			}
		default:
			if len(plan.Outs) > 0 {
				return o
			}
		}
	}
	return o
}

// act does one act, and asks of it what can be seen from outside.
func (p *player) act(t *testing.T, a impl.Act) {
	t.Helper()
	w := p.world
	next, code := impl.WorldDo(w, a)
	want, wantCode := plainWorldDo(w, a)
	if code != wantCode {
		t.Errorf("%+v is %d, not %d", a, code, wantCode)
	}
	wantWorld(t, "in a play", next, want)
	wantWorldOk(t, "in a play", next, true)
	p.notePut(w, next, a, code)
	p.wantBeginning(t, w, next)
	p.wantAnswered(t, w, next)
	p.wantFolded(t, w, next)
	if a.Kind == impl.AcCrash && code == 0 {
		p.falls++
	}
	p.world, p.acts, p.codes = next, append(p.acts, a), append(p.codes, code)
	if p.watch != nil {
		p.watch(t, next)
	}
}

// notePut keeps which calls have been put in a Journal: no other one may ever be seen.
func (p *player) notePut(w impl.World, next impl.World, a impl.Act, code int) {
	if a.Kind != impl.AcStep || code != 0 {
		return
	}
	h := w.Hosts[a.A]
	if h.Up && h.Ready && h.Op.Kind <= impl.OpDrain && h.Pc == 3 && next.Hosts[a.A].Pc == 4 {
		p.put[impl.Event{Host: a.A, Txn: h.Txn + 1, Op: h.Op}] = true
	}
}

func beginsWith[T comparable](list []T, first []T) bool {
	return len(list) >= len(first) && slices.Equal(list[:len(first)], first)
}

// wantBeginning asks that nothing that was told is taken back, and that each call that is seen was put, and is seen once.
func (p *player) wantBeginning(t *testing.T, w impl.World, next impl.World) {
	t.Helper()
	if !beginsWith(next.Log, w.Log) || !beginsWith(next.Replies, w.Replies) {
		t.Error("what was told is taken back")
	}
	for _, e := range next.Log[len(w.Log):] {
		if !p.put[e] || w.Seen[e.Host] >= e.Txn || next.Seen[e.Host] != e.Txn {
			t.Errorf("%+v is seen, Seen is %v", e, next.Seen)
		}
		if h := next.Hosts[e.Host]; !h.Up || h.Op != e.Op {
			p.late++
		}
	}
	if len(next.Log) == len(w.Log) && !slices.Equal(next.Seen, w.Seen) {
		t.Error("Seen is another one, and nothing was seen")
	}
}

// wantAnswered asks that a call which is answered to be done was seen ahead of that.
func (p *player) wantAnswered(t *testing.T, w impl.World, next impl.World) {
	t.Helper()
	for _, reply := range next.Replies[len(w.Replies):] {
		h := w.Hosts[reply.Host]
		if reply.At != len(next.Log) || reply.Op != h.Op {
			t.Errorf("%+v is asked %+v and replies %+v, with %d Log", h, h.Op, reply, len(next.Log))
		}
		if h.Op.Kind <= impl.OpDrain && h.Pc > 3 && !slices.Contains(next.Log[:reply.At], impl.Event{Host: h.Id, Txn: h.Txn, Op: h.Op}) {
			t.Errorf("%+v is answered, and was not seen", h)
		}
	}
}

// wantFolded asks that the calls that were seen, in that order, make the pool that the disk says.
func (p *player) wantFolded(t *testing.T, w impl.World, next impl.World) {
	t.Helper()
	for _, e := range next.Log[len(w.Log):] {
		pool, done := impl.PoolDo(p.pool, e.Op)
		if !done {
			t.Errorf("%+v is seen, and can't be done", e)
		}
		p.pool = pool
	}
	if said, ok := impl.Abstract(next.Disk.Sectors); !ok || !samePool(said, p.pool) {
		t.Errorf("the disk says %+v %v, the calls that were seen %+v", said, ok, p.pool)
	}
}

func (p *player) play(t *testing.T) {
	t.Helper()
	for len(p.acts) < impl.MaxActs && !t.Failed() {
		a := p.choose()
		p.act(t, a)
		// Calls would come to no end if each step were another host's.
		for p.goesOnWith(a) && !t.Failed() {
			p.act(t, a)
		}
	}
}

func (p *player) goesOnWith(a impl.Act) bool {
	isStep := a.Kind == impl.AcStep && a.A >= 0 && a.A < impl.MaxHosts
	return isStep && p.world.Hosts[a.A].Busy && len(p.acts) < impl.MaxActs && p.r.Intn(8) > 0
}

func newPlayer(r *rand.Rand) *player {
	p := &player{r: r, world: impl.NewWorld(), put: map[impl.Event]bool{}, pool: impl.NewPool()}
	p.call = p.chooseCall
	return p
}

func TestManyPlays(t *testing.T) {
	t.Parallel()
	r := rand.New(rand.NewSource(901))
	seen, replies, falls, late := 0, 0, 0, 0
	for range 40 {
		p := newPlayer(r)
		p.play(t)
		if t.Failed() {
			return
		}
		wantPlay(t, "all acts", p.acts, p.world, p.codes)
		for range 4 {
			n := r.Intn(len(p.acts))
			w, codes := playedOf(t, "a beginning", p.acts[:n])
			if !beginsWith(p.world.Log, w.Log) || !beginsWith(p.world.Replies, w.Replies) || !beginsWith(p.codes, codes) || len(codes) != n {
				t.Error("what a beginning tells is not the beginning of what all tell")
			}
		}
		seen, replies, falls, late = seen+len(p.world.Log), replies+len(p.world.Replies), falls+p.falls, late+p.late
	}
	if seen < 200 || replies < 1000 || falls < 100 || late < 10 {
		t.Errorf("%d calls were seen, %d of these late; there were %d replies and %d falls", seen, late, replies, falls)
	}
}

// Each beginning of one play, act by act.
func TestEachBeginningOfAPlay(t *testing.T) {
	s := written(4)
	s.add(impl.AcCrash, 0)
	s.rise(1, 11)
	s.add(impl.AcLand, 0)
	s.ask(1, impl.Op{Kind: impl.OpRecover}, 14)
	s.add(0, 0)
	s.add(impl.AcRise, 1)
	s.rise(0, 11)
	all, codes := impl.Play(s)
	want := impl.NewWorld()
	for n := range len(s) + 1 {
		wantPlay(t, fmt.Sprint("the first ", n), s[:n], want, codes[:n])
		if !beginsWith(all.Log, want.Log) || !beginsWith(all.Replies, want.Replies) {
			t.Errorf("the first %d acts tell other things than all", n)
		}
		if n < len(s) {
			next, code := plainWorldDo(want, s[n])
			if code != codes[n] {
				t.Errorf("act %d is %d, not %d", n, codes[n], code)
			}
			want = next
		}
	}
	wantLogged(t, "all", all, createdEvent(), writtenEvent())
	if len(all.Replies) != 7 {
		t.Error("there are", len(all.Replies), "Replies")
	}
}
