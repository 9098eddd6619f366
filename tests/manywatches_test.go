package tests

import (
	"fmt"
	"math/rand"
	"slices"
	"testing"

	"loop.example/g00761/impl"
)

// glimpse is one beat that was seen at one tick.
type glimpse struct {
	tick int
	beat int
}

// plainWatch keeps all that was ever seen of each host, and asks what that means only where it is asked.
type plainWatch struct {
	now  int
	seen [impl.MaxHosts][]glimpse
}

func newPlainWatch() *plainWatch {
	p := &plainWatch{}
	for host := range p.seen {
		p.seen[host] = []glimpse{{}}
	}
	return p
}

func (p *plainWatch) see(host int, beat int) {
	if host >= 0 && host < len(p.seen) && beat >= 0 && beat <= 1000000 {
		p.seen[host] = append(p.seen[host], glimpse{p.now, beat})
	}
}

// last is the beat that was seen last, and when it was another one than ahead of it.
func (p *plainWatch) last(host int) glimpse {
	all := p.seen[host]
	at := len(all) - 1
	for at > 0 && all[at-1].beat == all[at].beat {
		at--
	}
	return all[at]
}

func (p *plainWatch) watch() impl.Watch {
	w := impl.Watch{Now: p.now}
	for host := range p.seen {
		w.Beats = append(w.Beats, p.last(host).beat)
		w.Since = append(w.Since, p.last(host).tick)
	}
	return w
}

func (p *plainWatch) dead(host int, limit int) bool {
	return host >= 0 && host < len(p.seen) && limit >= 0 && p.now-p.last(host).tick > limit
}

// watchStep does one random thing to a watch and to its plain one.
func watchStep(r *rand.Rand, w impl.Watch, p *plainWatch) impl.Watch {
	switch r.Intn(4) {
	case 0:
		w, _ = impl.WatchTick(w)
		p.now++
	case 1:
		beats := randomNumbers(r, impl.MaxHosts, 0, 3)
		for host, beat := range beats {
			p.see(host, beat)
		}
		w = impl.ObserveAll(w, beatsPool(beats...))
	default:
		host, beat := r.Intn(impl.MaxHosts+2)-1, r.Intn(6)-1
		if r.Intn(9) == 0 {
			beat = impl.MaxBeat + r.Intn(2)
		}
		p.see(host, beat)
		w = impl.Observe(w, host, beat)
	}
	return w
}

func TestManyWatchesAsSaid(t *testing.T) {
	r := rand.New(rand.NewSource(131))
	for run := range 60 {
		w, p := impl.NewWatch(), newPlainWatch()
		for step := range 60 {
			what := fmt.Sprint("run ", run, ", step ", step)
			w = watchStep(r, w, p)
			wantWatch(t, what, w, p.watch())
			wantWatchOk(t, what, w, true)
			for host := -1; host <= impl.MaxHosts; host++ {
				limit := r.Intn(9) - 1
				wantDead(t, what, w, host, limit, p.dead(host, limit))
			}
		}
	}
}

func randomWatch(r *rand.Rand) impl.Watch {
	now := r.Intn(impl.MaxClock+1) >> r.Intn(21)
	return watchOf(now, randomNumbers(r, impl.MaxHosts, 0, impl.MaxBeat>>r.Intn(20)), randomNumbers(r, impl.MaxHosts, 0, now))
}

func randomBeat(r *rand.Rand, w impl.Watch) int {
	if r.Intn(2) == 0 {
		return w.Beats[r.Intn(impl.MaxHosts)]
	}
	return r.Intn(impl.MaxBeat+1) >> r.Intn(20)
}

func TestWhatIsSeenOfOneHostChangesNothingOfAnother(t *testing.T) {
	r := rand.New(rand.NewSource(132))
	for run := range 3000 {
		w := randomWatch(r)
		host, beat := r.Intn(impl.MaxHosts), randomBeat(r, w)
		got := impl.Observe(w, host, beat)
		what := fmt.Sprint("run ", run, ", host ", host, ", beat ", beat)
		if got.Now != w.Now {
			t.Errorf("%s: the clock of %v went to %d", what, w, got.Now)
		}
		for other := range impl.MaxHosts {
			limit := w.Now - w.Since[other] - r.Intn(2)
			if other != host && (got.Beats[other] != w.Beats[other] || got.Since[other] != w.Since[other]) {
				t.Errorf("%s: of host %d %v became %v", what, other, w, got)
			}
			if other != host && impl.Dead(got, other, limit) != impl.Dead(w, other, limit) {
				t.Errorf("%s: host %d of %v is Dead otherwise by a limit of %d", what, other, w, limit)
			}
		}
		wantWatch(t, what+", seen twice", impl.Observe(got, host, beat), got)
	}
}

// Two hosts may be seen in any order, and all of them at once.
func TestHostsAreSeenInAnyOrder(t *testing.T) {
	r := rand.New(rand.NewSource(133))
	for run := range 1000 {
		w := randomWatch(r)
		beats := []int{randomBeat(r, w), randomBeat(r, w), randomBeat(r, w)}
		if r.Intn(2) == 0 {
			host := r.Intn(impl.MaxHosts)
			beats[host] = w.Beats[host]
		}
		s := beatsPool(beats...)
		all := impl.ObserveAll(w, s)
		what := fmt.Sprint("run ", run, ", beats ", beats)
		one := w
		for _, host := range r.Perm(impl.MaxHosts) {
			one = impl.Observe(one, host, beats[host])
		}
		wantWatch(t, what+", one by one", one, all)
		wantWatch(t, what+", seen twice", impl.ObserveAll(all, s), all)
		if !slices.Equal(all.Beats, beats) {
			t.Errorf("%s: all that was seen of %v is %v", what, w, all.Beats)
		}
	}
}

// heart is a host that beats at random, but within each limit and 1 ticks at least once.
type heart struct {
	host    int
	limit   int
	beat    int
	resting int
}

func (h *heart) tick(r *rand.Rand) {
	if h.resting == h.limit || r.Intn(h.limit+2) == 0 {
		h.beat = (h.beat + 1 + r.Intn(3)) % (impl.MaxBeat + 1)
		h.resting = 0
		return
	}
	h.resting++
}

func heartsOf(r *rand.Rand, limit int) []*heart {
	var out []*heart
	for host := range impl.MaxHosts {
		out = append(out, &heart{host: host, limit: limit, beat: r.Intn(2) * (impl.MaxBeat - r.Intn(9))})
	}
	return out
}

func beatsOf(hearts []*heart) []int {
	var out []int
	for _, h := range hearts {
		out = append(out, h.beat)
	}
	return out
}

// wantAlive lets all hosts beat for a while: none of them is ever told dead.
func wantAlive(t *testing.T, r *rand.Rand, w impl.Watch, hearts []*heart, ticks int) impl.Watch {
	t.Helper()
	for range ticks {
		w, _ = impl.WatchTick(w)
		for _, h := range hearts {
			h.tick(r)
			w = impl.Observe(w, h.host, h.beat)
		}
		for _, h := range hearts {
			wantDead(t, "one that beats", w, h.host, h.limit, false)
		}
	}
	return w
}

// wantLost lets one host beat no more, while the others do: it is told dead just when more ticks than the limit have gone.
func wantLost(t *testing.T, r *rand.Rand, w impl.Watch, hearts []*heart, lost *heart) {
	t.Helper()
	lost.beat = (lost.beat + 1) % (impl.MaxBeat + 1)
	w = impl.ObserveAll(w, beatsPool(beatsOf(hearts)...))
	for gone := 1; gone <= lost.limit+4; gone++ {
		w, _ = impl.WatchTick(w)
		for _, h := range hearts {
			if h != lost {
				h.tick(r)
			}
		}
		w = impl.ObserveAll(w, beatsPool(beatsOf(hearts)...))
		for _, h := range hearts {
			wantDead(t, fmt.Sprint(gone, " ticks behind the last beat of host ", lost.host), w, h.host, h.limit, h == lost && gone > h.limit)
		}
	}
	lost.resting, lost.beat = 0, (lost.beat+1)%(impl.MaxBeat+1)
	w = impl.Observe(w, lost.host, lost.beat)
	wantDead(t, "it beats once more", w, lost.host, lost.limit, false)
}

func TestOnesThatBeatAreNeverDeadAndOthersAre(t *testing.T) {
	r := rand.New(rand.NewSource(134))
	for run := range 120 {
		hearts := heartsOf(r, run%8)
		w := impl.ObserveAll(impl.NewWatch(), beatsPool(beatsOf(hearts)...))
		w = wantAlive(t, r, w, hearts, 40)
		wantLost(t, r, w, hearts, hearts[r.Intn(impl.MaxHosts)])
	}
}

// The same at the end of the clock's time.
func TestDeadAtTheEndOfTheClock(t *testing.T) {
	for limit := range 6 {
		last := impl.MaxClock - limit - 1
		w := watchOf(last, []int{1, 1, 1}, []int{last, last, last - 1})
		ticks := 0
		for ticked := true; ticked && ticks < limit+5; ticks++ {
			wantDead(t, "seen as late as may be", w, 0, limit, ticks > limit)
			wantDead(t, "seen one tick ahead of it", w, 2, limit, ticks+1 > limit)
			w, ticked = impl.WatchTick(w)
		}
		if ticks != limit+2 || !impl.Dead(w, 0, limit) {
			t.Errorf("limit %d: there were %d ticks up to %v", limit, ticks-1, w)
		}
	}
}
