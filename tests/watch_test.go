package tests

import (
	"fmt"
	"math"
	"slices"
	"strings"
	"testing"

	"loop.example/g00761/impl"
)

func watchOf(now int, beats []int, since []int) impl.Watch {
	return impl.Watch{Now: now, Beats: beats, Since: since}
}

// noWatch is the zero Watch, which is not right.
func noWatch() impl.Watch { return impl.Watch{} }

func sameWatch(a impl.Watch, b impl.Watch) bool {
	return a.Now == b.Now && slices.Equal(a.Beats, b.Beats) && slices.Equal(a.Since, b.Since)
}

func cloneWatch(w impl.Watch) impl.Watch {
	return watchOf(w.Now, slices.Clone(w.Beats), slices.Clone(w.Since))
}

func watchWith(w impl.Watch, change func(w *impl.Watch)) impl.Watch {
	w = cloneWatch(w)
	change(&w)
	return w
}

func wantWatch(t *testing.T, what string, got impl.Watch, want impl.Watch) {
	t.Helper()
	if !sameWatch(got, want) {
		t.Errorf("%s: the watch is %v, not %v", what, got, want)
	}
}

// watchRoom is a copy of a watch in which what stands in the room behind its lists counts too.
func watchRoom(w impl.Watch) impl.Watch { return watchOf(w.Now, allOf(w.Beats), allOf(w.Since)) }

// wantOwnWatch asks that the two lists of one watch share no memory, and leaves them spoiled.
func wantOwnWatch(t *testing.T, what string, w impl.Watch) {
	t.Helper()
	since := allOf(w.Since)
	spoilNumbers(w.Beats)
	if !slices.Equal(allOf(w.Since), since) {
		t.Errorf("%s: Beats and Since of the answer share memory", what)
	}
	spoilNumbers(w.Since)
}

// watchApart asks twice, that what is handed in and the room behind it stay, and that nothing is shared.
func watchApart(t *testing.T, what string, w impl.Watch, ask func(w impl.Watch) (impl.Watch, bool)) (impl.Watch, bool) {
	t.Helper()
	room := watchOf(w.Now, roomyList(w.Beats, -7), roomyList(w.Since, -7))
	before := watchRoom(room)
	first, told := ask(room)
	second, again := ask(room)
	wantWatch(t, what+", what was handed in, with the room behind it", watchRoom(room), before)
	if !sameWatch(first, second) || told != again {
		t.Errorf("%s: two answers differ: %v %v and %v %v", what, first, told, second, again)
	}
	kept := cloneWatch(first)
	wantOwnWatch(t, what, second)
	wantWatch(t, what+", what was handed in, an answer spoiled", watchRoom(room), before)
	spoilNumbers(room.Beats)
	spoilNumbers(room.Since)
	wantWatch(t, what+", spoiled by another answer or by what was handed in", first, kept)
	return kept, told
}

func wantWatchOk(t *testing.T, what string, w impl.Watch, want bool) {
	t.Helper()
	watchApart(t, what, w, func(w impl.Watch) (impl.Watch, bool) {
		if got := impl.WatchOk(w); got != want {
			t.Errorf("%s: WatchOk of %v is %v", what, w, got)
		}
		return noWatch(), want
	})
}

func wantTick(t *testing.T, what string, w impl.Watch, want impl.Watch, wantTicked bool) {
	t.Helper()
	got, ticked := watchApart(t, what, w, impl.WatchTick)
	wantWatch(t, what, got, want)
	if ticked != wantTicked {
		t.Errorf("%s: WatchTick of %v says %v", what, w, ticked)
	}
}

func wantObserve(t *testing.T, what string, w impl.Watch, host int, beat int, want impl.Watch) {
	t.Helper()
	what = fmt.Sprintf("%s: Observe of %v, host %d, beat %d", what, w, host, beat)
	got, _ := watchApart(t, what, w, func(w impl.Watch) (impl.Watch, bool) { return impl.Observe(w, host, beat), true })
	wantWatch(t, what, got, want)
}

func wantObserveAll(t *testing.T, what string, w impl.Watch, s []string, want impl.Watch) {
	t.Helper()
	what = fmt.Sprintf("%s: ObserveAll of %v", what, w)
	room := append(slices.Clone(s), "spare", "spare", "spare")
	before := slices.Clone(room)
	got, _ := watchApart(t, what, w, func(w impl.Watch) (impl.Watch, bool) { return impl.ObserveAll(w, room[:len(s)]), true })
	wantWatch(t, what, got, want)
	if !slices.Equal(room, before) {
		t.Errorf("%s: the sectors were changed, or the room behind them", what)
	}
}

func wantDead(t *testing.T, what string, w impl.Watch, host int, limit int, want bool) {
	t.Helper()
	watchApart(t, what, w, func(w impl.Watch) (impl.Watch, bool) {
		if got := impl.Dead(w, host, limit); got != want {
			t.Errorf("%s: Dead of %v, host %d, limit %d is %v", what, w, host, limit, got)
		}
		return noWatch(), want
	})
}

// usedWatch has seen host 1 just now, the others some while ago.
func usedWatch() impl.Watch { return watchOf(9, []int{4, 0, 70}, []int{2, 9, 5}) }

func rightWatches() []impl.Watch {
	most := []int{impl.MaxBeat, impl.MaxBeat, impl.MaxBeat}
	last := []int{impl.MaxClock, impl.MaxClock, impl.MaxClock}
	none := []int{0, 0, 0}
	out := []impl.Watch{
		watchOf(0, none, none), watchOf(0, most, none), watchOf(1, none, none), watchOf(1, []int{1, 2, 3}, []int{1, 0, 1}),
		usedWatch(), watchOf(impl.MaxClock-1, []int{1, 1, 1}, []int{0, 1, 2}),
		watchOf(impl.MaxClock, none, none), watchOf(impl.MaxClock, most, last), watchOf(impl.MaxClock, none, last),
	}
	for host := range impl.MaxHosts {
		for _, beat := range []int{0, 1, impl.MaxBeat - 1, impl.MaxBeat} {
			out = append(out, watchWith(usedWatch(), func(w *impl.Watch) { w.Beats[host] = beat }))
		}
		for _, since := range []int{0, 1, 8, 9} {
			out = append(out, watchWith(usedWatch(), func(w *impl.Watch) { w.Since[host] = since }))
		}
	}
	return out
}

type wrongWatch struct {
	what string
	w    impl.Watch
}

// wrongWatches are right ones with one thing changed. In most of them some host was not seen for a while.
func wrongWatches() []wrongWatch {
	out := []wrongWatch{{"the zero Watch", noWatch()}, {"a clock alone", watchOf(9, nil, nil)}}
	for _, w := range rightWatches() {
		add := func(what string, change func(w *impl.Watch)) {
			out = append(out, wrongWatch{what, watchWith(w, change)})
		}
		for _, now := range []int{-1, math.MinInt, impl.MaxClock + 1, math.MaxInt} {
			add("Now out of its bounds", func(w *impl.Watch) { w.Now = now })
		}
		add("Beats are one short", func(w *impl.Watch) { w.Beats = w.Beats[:2] })
		add("Beats are one too many", func(w *impl.Watch) { w.Beats = append(w.Beats, 0) })
		add("no Beats", func(w *impl.Watch) { w.Beats = nil })
		add("Beats without a number", func(w *impl.Watch) { w.Beats = []int{} })
		add("Since is one short", func(w *impl.Watch) { w.Since = w.Since[:2] })
		add("Since is one too many", func(w *impl.Watch) { w.Since = append(w.Since, 0) })
		add("no Since", func(w *impl.Watch) { w.Since = nil })
		add("Since without a number", func(w *impl.Watch) { w.Since = []int{} })
		add("both are one short", func(w *impl.Watch) { w.Beats, w.Since = w.Beats[:2], w.Since[:2] })
		add("Beats are one short, Since one too many", func(w *impl.Watch) { w.Beats, w.Since = w.Beats[:2], append(w.Since, 0) })
		add("Since is one short, Beats one too many", func(w *impl.Watch) { w.Beats, w.Since = append(w.Beats, 0), w.Since[:2] })
		add("both are one too many", func(w *impl.Watch) { w.Beats, w.Since = append(w.Beats, 0), append(w.Since, 0) })
		for host := range impl.MaxHosts {
			for _, beat := range []int{-1, math.MinInt, impl.MaxBeat + 1, math.MaxInt} {
				add("a beat out of its bounds", func(w *impl.Watch) { w.Beats[host] = beat })
			}
			for _, since := range []int{-1, math.MinInt, w.Now + 1, math.MaxInt} {
				add("a since out of its bounds", func(w *impl.Watch) { w.Since[host] = since })
			}
		}
	}
	return out
}

func manyHosts() []int {
	return []int{math.MinInt, -2, -1, 0, 1, 2, 3, 4, impl.MaxBeat, math.MaxInt}
}

func manyBeats() []int {
	return []int{math.MinInt, -2, -1, 0, 1, 2, 3, 4, 5, 70, impl.MaxBeat - 1, impl.MaxBeat, impl.MaxBeat + 1, math.MaxInt}
}

// beatsPool is a right pool of which nothing but the hosts' beats is told.
func beatsPool(beats ...int) []string {
	s := usedPool()
	for host, beat := range beats {
		s[host], _ = plainShow("h", impl.HostSec{Beat: beat, Rec: rightLeases()[host]})
	}
	return s
}

func TestNewWatch(t *testing.T) {
	if impl.MaxClock != 1000000 {
		t.Errorf("MaxClock is %d", impl.MaxClock)
	}
	w, _ := watchApart(t, "a new one", noWatch(), func(w impl.Watch) (impl.Watch, bool) { return impl.NewWatch(), true })
	if w.Now != 0 || !slices.Equal(w.Beats, []int{0, 0, 0}) || !slices.Equal(w.Since, []int{0, 0, 0}) {
		t.Errorf("a new watch is %v", w)
	}
	wantWatchOk(t, "a new one", w, true)
	for host := range impl.MaxHosts {
		wantDead(t, "a new one", w, host, 0, false)
	}
}

func TestWatchOk(t *testing.T) {
	for i, w := range rightWatches() {
		wantWatchOk(t, fmt.Sprint("right watch ", i), w, true)
	}
	for _, wrong := range wrongWatches() {
		wantWatchOk(t, wrong.what, wrong.w, false)
	}
}

// What stands in the room behind a list is no number of it.
func TestWatchOkDoesNotLookIntoTheRoomBehind(t *testing.T) {
	full := usedWatch()
	wantWatchOk(t, "Beats", watchOf(9, full.Beats[:2], full.Since), false)
	wantWatchOk(t, "Since", watchOf(9, full.Beats, full.Since[:2]), false)
	long := []int{1, 1, 1, math.MaxInt}
	wantWatchOk(t, "both", watchOf(9, long[:3], long[:3]), true)
}

func TestWatchTick(t *testing.T) {
	wantTick(t, "a new one", impl.NewWatch(), watchOf(1, []int{0, 0, 0}, []int{0, 0, 0}), true)
	wantTick(t, "a used one", usedWatch(), watchOf(10, []int{4, 0, 70}, []int{2, 9, 5}), true)
	late := watchWith(usedWatch(), func(w *impl.Watch) { w.Now = impl.MaxClock - 1 })
	last := watchWith(usedWatch(), func(w *impl.Watch) { w.Now = impl.MaxClock })
	wantTick(t, "the last but one", late, last, true)
	wantTick(t, "the last one", last, last, false)
	for i, w := range rightWatches() {
		next, ticks := w, w.Now < impl.MaxClock
		if ticks {
			next.Now++
		}
		wantTick(t, fmt.Sprint("right watch ", i), w, next, ticks)
	}
	for _, wrong := range wrongWatches() {
		wantTick(t, wrong.what, wrong.w, noWatch(), false)
	}
}

func TestObserveByHand(t *testing.T) {
	w := usedWatch()
	wantObserve(t, "the first host", w, 0, 5, watchOf(9, []int{5, 0, 70}, []int{9, 9, 5}))
	wantObserve(t, "a beat below the last one", w, 0, 3, watchOf(9, []int{3, 0, 70}, []int{9, 9, 5}))
	wantObserve(t, "beat 0", w, 0, 0, watchOf(9, []int{0, 0, 70}, []int{9, 9, 5}))
	wantObserve(t, "the last host", w, 2, 71, watchOf(9, []int{4, 0, 71}, []int{2, 9, 9}))
	wantObserve(t, "the highest beat", w, 2, impl.MaxBeat, watchOf(9, []int{4, 0, impl.MaxBeat}, []int{2, 9, 9}))
	wantObserve(t, "one seen just now", w, 1, 1, watchOf(9, []int{4, 1, 70}, []int{2, 9, 5}))
	for host, beat := range w.Beats {
		wantObserve(t, "the same beat", w, host, beat, w)
		wantObserve(t, "a beat below 0", w, host, -1, w)
		wantObserve(t, "a beat above the highest one", w, host, impl.MaxBeat+1, w)
	}
	for _, host := range []int{-1, impl.MaxHosts, math.MinInt, math.MaxInt} {
		wantObserve(t, "no such host", w, host, 6, w)
	}
	// A beat of another host that is the same is none of this one.
	wantObserve(t, "the beat of host 2", w, 0, 70, watchOf(9, []int{70, 0, 70}, []int{9, 9, 5}))
}

func TestObserveOfEachHostAndBeat(t *testing.T) {
	for i, w := range rightWatches() {
		for _, host := range manyHosts() {
			for _, beat := range append(manyBeats(), w.Beats...) {
				want := w
				if host >= 0 && host < 3 && beat >= 0 && beat <= 1000000 && beat != w.Beats[host] {
					want = watchWith(w, func(w *impl.Watch) { w.Beats[host], w.Since[host] = beat, w.Now })
				}
				wantObserve(t, fmt.Sprint("right watch ", i), w, host, beat, want)
			}
		}
	}
}

func TestObserveOfAWrongWatch(t *testing.T) {
	for _, wrong := range wrongWatches() {
		for _, host := range []int{-1, 0, 1, 2, 3} {
			for _, beat := range []int{-1, 0, 4, impl.MaxBeat + 1} {
				wantObserve(t, wrong.what, wrong.w, host, beat, noWatch())
			}
		}
	}
}

// What is handed in may be one list twice: it is taken as what it says.
func TestObserveOfListsThatAreOne(t *testing.T) {
	list := []int{3, 4, 5}
	got := impl.Observe(watchOf(8, list, list), 1, 6)
	wantWatch(t, "one list twice", got, watchOf(8, []int{3, 6, 5}, []int{3, 8, 5}))
	got, _ = impl.WatchTick(watchOf(8, list, list))
	wantOwnWatch(t, "a tick of one list twice", got)
	if !slices.Equal(list, []int{3, 4, 5}) {
		t.Errorf("the list was changed: %v", list)
	}
}

func TestObserveAllByHand(t *testing.T) {
	w := usedWatch()
	wantObserveAll(t, "all the same", w, beatsPool(4, 0, 70), w)
	wantObserveAll(t, "host 0 beats", w, beatsPool(5, 0, 70), watchOf(9, []int{5, 0, 70}, []int{9, 9, 5}))
	wantObserveAll(t, "host 1 beats", w, beatsPool(4, 2, 70), watchOf(9, []int{4, 2, 70}, []int{2, 9, 5}))
	wantObserveAll(t, "host 2 beats", w, beatsPool(4, 0, 69), watchOf(9, []int{4, 0, 69}, []int{2, 9, 9}))
	wantObserveAll(t, "two beat", w, beatsPool(0, 0, 0), watchOf(9, []int{0, 0, 0}, []int{9, 9, 9}))
	wantObserveAll(t, "all beat", w, beatsPool(1, 2, 3), watchOf(9, []int{1, 2, 3}, []int{9, 9, 9}))
	wantObserveAll(t, "the highest beats", w, usedPool(), watchOf(9, []int{1000000, 1000000, 1000000}, []int{9, 9, 9}))
	wantObserveAll(t, "nobody has beaten yet", impl.NewWatch(), impl.Format(), impl.NewWatch())
	wantObserveAll(t, "a new pool", w, impl.Format(), watchOf(9, []int{0, 0, 0}, []int{9, 9, 9}))
}

func TestObserveAllOfEachBeat(t *testing.T) {
	for i, w := range rightWatches() {
		for which := range 8 {
			beats, want := slices.Clone(w.Beats), cloneWatch(w)
			for host := range impl.MaxHosts {
				if which>>host&1 == 1 {
					beats[host] = (beats[host] + 1 + host) % (impl.MaxBeat + 1)
					want.Beats[host], want.Since[host] = beats[host], w.Now
				}
			}
			wantObserveAll(t, fmt.Sprint("right watch ", i), w, beatsPool(beats...), want)
		}
	}
}

// spoiltPools have right sectors of all hosts, or all but one; some other thing is wrong.
func spoiltPools() map[string][]string {
	s := beatsPool(1, 2, 3)
	out := map[string][]string{
		"no sectors":               nil,
		"the hosts' sectors alone": s[:3],
		"a sector too few":         s[:impl.Sectors-1],
		"a sector too many":        append(slices.Clone(s), ""),
		"a block that is too long": changed(s, impl.Out{Sector: impl.Sectors - 1, Text: strings.Repeat("b", impl.MaxBlock+1)}),
	}
	for sector := range impl.Sectors - impl.Blocks {
		out[fmt.Sprint("sector ", sector, " says nothing")] = changed(s, impl.Out{Sector: sector})
		turned := []byte(s[sector])
		turned[len(turned)-1] ^= 1
		out[fmt.Sprint("sector ", sector, " has one bit turned")] = changed(s, impl.Out{Sector: sector, Text: string(turned)})
	}
	return out
}

func TestObserveAllOfWhatIsNoPool(t *testing.T) {
	for what, s := range spoiltPools() {
		wantPool(t, what, s, false)
		for _, w := range []impl.Watch{impl.NewWatch(), usedWatch()} {
			wantObserveAll(t, what, w, s, w)
		}
		wantObserveAll(t, what, noWatch(), s, noWatch())
	}
}

func TestObserveAllOfAWrongWatch(t *testing.T) {
	for _, wrong := range wrongWatches() {
		for _, s := range [][]string{impl.Format(), beatsPool(4, 0, 70), beatsPool(1, 2, 3), nil, beatsPool(1, 2, 3)[1:]} {
			wantObserveAll(t, wrong.what, wrong.w, s, noWatch())
		}
	}
}

// A beat is what stands in the host's sector, not what a Journal would still write there, and it hangs on no lease.
func TestObserveAllSeesTheSectorsAlone(t *testing.T) {
	for host := range impl.MaxHosts {
		text, _ := plainShow("h", impl.HostSec{Beat: 8, Rec: planNo})
		s := changed(beatsPool(4, 0, 70), journalOf(1, 5, impl.Out{Sector: host, Text: text}))
		wantPool(t, "a Journal that is open", s, true)
		wantObserveAll(t, "a Journal that is open", usedWatch(), s, usedWatch())
		for _, lease := range rightLeases() {
			want := watchOf(9, []int{4, 0, 70}, []int{2, 9, 5})
			want.Beats[host], want.Since[host] = 8, 9
			text, _ = plainShow("h", impl.HostSec{Beat: 8, Rec: lease})
			wantObserveAll(t, "whoever recovers it", usedWatch(), changed(beatsPool(4, 0, 70), impl.Out{Sector: host, Text: text}), want)
		}
	}
}

func TestDeadByHand(t *testing.T) {
	w := usedWatch()
	for host, gone := range []int{7, 0, 4} {
		wantDead(t, "a limit of just what has gone", w, host, gone, false)
		wantDead(t, "a limit of one more", w, host, gone+1, false)
		wantDead(t, "a limit of one less", w, host, gone-1, gone > 0)
		wantDead(t, "a limit below 0", w, host, -1, false)
		wantDead(t, "the lowest limit", w, host, math.MinInt, false)
		wantDead(t, "the highest limit", w, host, math.MaxInt, false)
		wantDead(t, "no limit", w, host, 0, gone > 0)
	}
	for _, host := range []int{-1, impl.MaxHosts, math.MinInt, math.MaxInt} {
		wantDead(t, "no such host", w, host, 0, false)
	}
	late := watchOf(impl.MaxClock, []int{0, 0, 0}, []int{0, 1, impl.MaxClock})
	wantDead(t, "never seen", late, 0, impl.MaxClock-1, true)
	wantDead(t, "never seen", late, 0, impl.MaxClock, false)
	wantDead(t, "seen at 1", late, 1, impl.MaxClock-2, true)
	wantDead(t, "seen at 1", late, 1, impl.MaxClock-1, false)
	wantDead(t, "seen at last", late, 2, 0, false)
}

func TestDeadOfEachHostAndLimit(t *testing.T) {
	for i, w := range rightWatches() {
		for _, host := range manyHosts() {
			limits := []int{math.MinInt, -1, 0, 1, impl.MaxClock, math.MaxInt}
			gone := -1
			if host >= 0 && host < 3 {
				gone = w.Now - w.Since[host]
				limits = append(limits, gone-1, gone, gone+1)
			}
			for _, limit := range limits {
				wantDead(t, fmt.Sprint("right watch ", i), w, host, limit, limit >= 0 && gone > limit)
			}
		}
	}
}

func TestDeadOfAWrongWatch(t *testing.T) {
	for _, wrong := range wrongWatches() {
		for _, host := range []int{-1, 0, 1, 2, 3} {
			for _, limit := range []int{-1, 0, 1, 3} {
				wantDead(t, wrong.what, wrong.w, host, limit, false)
			}
		}
	}
}
