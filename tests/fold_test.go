package tests

import (
	"fmt"
	"math"
	"math/rand"
	"slices"
	"testing"

	"loop.example/g00761/impl"
)

// foldOf asks twice, that the log and the room behind it stay, and that nothing is shared.
func foldOf(t *testing.T, what string, log []impl.Event, n int) (impl.Pool, bool) {
	t.Helper()
	room := roomyList(log, impl.Event{Host: -7, Txn: -7, Op: impl.Op{Kind: impl.OpCreate}})
	before := allOf(room)
	got, done := poolApart(t, what, func() (impl.Pool, bool) { return impl.FoldPool(room, n) })
	if !slices.Equal(allOf(room), before) {
		t.Errorf("%s: FoldPool changed its log, or the room behind it", what)
	}
	return got, done
}

func wantFold(t *testing.T, what string, log []impl.Event, n int, want impl.Pool, wantDone bool) {
	t.Helper()
	got, done := foldOf(t, what, log, n)
	if done != wantDone || !samePool(got, want) {
		t.Errorf("%s: FoldPool of %d of %d is %+v %v, not %+v %v", what, n, len(log), got, done, want, wantDone)
	}
}

// wantNoFold asks for the answer where the argument is not as the chapter wants it.
func wantNoFold(t *testing.T, what string, log []impl.Event, n int) {
	t.Helper()
	if got, done := foldOf(t, what, log, n); done || len(got.Vols) != 0 {
		t.Errorf("%s: FoldPool of %d of %d is %+v %v", what, n, len(log), got, done)
	}
}

// logOf are these calls, each of another host and Txn.
func logOf(ops ...impl.Op) []impl.Event {
	var log []impl.Event
	for i, o := range ops {
		log = append(log, impl.Event{Host: i % impl.MaxHosts, Txn: 1 + i, Op: o})
	}
	return log
}

// someHistory are calls that can be done one behind another, and the pool behind each number of them.
func someHistory() ([]impl.Op, []impl.Pool) {
	ops := []impl.Op{
		{Kind: impl.OpCreate, Vol: 1},
		{Kind: impl.OpWrite, Vol: 1, At: 2, Text: "x"},
		{Kind: impl.OpDrain},
		{Kind: impl.OpSnap, Vol: 1, To: 3},
		{Kind: impl.OpWrite, Vol: 3, At: 2, Text: fullText()},
		{Kind: impl.OpWrite, Vol: 3},
		{Kind: impl.OpDiscard, Vol: 1, At: 2},
		{Kind: impl.OpDelete, Vol: 1},
		{Kind: impl.OpCreate, Vol: 0},
	}
	x, full := vol(nothing, nothing, "x"), vol(nothing, nothing, fullText())
	both := vol("", nothing, fullText())
	return ops, []impl.Pool{
		emptyPool(),
		pool(off(), vol(), off(), off()),
		pool(off(), x, off(), off()),
		pool(off(), x, off(), off()),
		pool(off(), x, off(), x),
		pool(off(), x, off(), full),
		pool(off(), x, off(), both),
		pool(off(), vol(), off(), both),
		pool(off(), off(), off(), both),
		pool(vol(), off(), off(), both),
	}
}

func manyNumbers(count int) []int {
	return append(numbersOut(count), count+2, -count, 1<<32, impl.MaxLog+1)
}

func TestFoldPoolOfNoCalls(t *testing.T) {
	for _, log := range [][]impl.Event{nil, {}, make([]impl.Event, 0, 9)} {
		wantFold(t, "no calls", log, 0, emptyPool(), true)
		for _, n := range manyNumbers(1) {
			wantNoFold(t, "no calls", log, n)
		}
		wantNoFold(t, "no calls", log, 1)
	}
}

func TestFoldPoolOfTheFirstOnes(t *testing.T) {
	ops, pools := someHistory()
	for count := range len(ops) + 1 {
		log := logOf(ops[:count]...)
		for n := range count + 1 {
			wantFold(t, "the first ones", log, n, pools[n], true)
		}
		for _, n := range []int{-1, -2, -count - 1, count + 1, count + 2, len(ops) + 3, math.MinInt, math.MaxInt, 1 << 32, impl.MaxLog} {
			wantNoFold(t, "out of how many there are", log, n)
		}
	}
}

// What stands in the room behind the log are no calls of it.
func TestFoldPoolDoesNotLookIntoTheRoomBehind(t *testing.T) {
	ops, pools := someHistory()
	for count := range len(ops) {
		log := logOf(ops...)[:count]
		wantFold(t, "the room behind", log, count, pools[count], true)
		wantNoFold(t, "the room behind", log, count+1)
		behind := append(logOf(ops[:count]...), impl.Event{Op: impl.Op{Kind: 99}})[:count]
		if got, done := impl.FoldPool(behind, count); !done || !samePool(got, pools[count]) {
			t.Errorf("what is no call in the room behind counts: %+v %v", got, done)
		}
	}
}

// Who called, and under which number, is nothing to FoldPool.
func TestFoldPoolHangsOnNoHostAndNoTxn(t *testing.T) {
	ops, pools := someHistory()
	for _, n := range edgeInts() {
		log := logOf(ops...)
		for i := range log {
			log[i].Host, log[i].Txn = n, -n
		}
		wantFold(t, "any Host and Txn", log, len(log), pools[len(log)], true)
	}
}

func TestFoldPoolAtMaxLog(t *testing.T) {
	ops := []impl.Op{{Kind: impl.OpCreate}, {Kind: impl.OpWrite, At: 1, Text: "w"}, {Kind: impl.OpDelete}}
	pools := []impl.Pool{emptyPool(), pool(vol(), off(), off(), off()), pool(vol(nothing, "w"), off(), off(), off())}
	all := logOf(slices.Repeat(ops, 300)...)
	for _, count := range []int{impl.MaxLog - 1, impl.MaxLog} {
		for _, n := range []int{0, 1, 2, 3, 100, count - 2, count - 1, count} {
			wantFold(t, "MaxLog and one less", all[:count:count], n, pools[n%3], true)
		}
		wantNoFold(t, "MaxLog and one less", all[:count], count+1)
	}
	for _, count := range []int{impl.MaxLog + 1, impl.MaxLog + 2, 2 * impl.MaxLog, len(all)} {
		for _, n := range []int{0, 1, impl.MaxLog - 1, impl.MaxLog, impl.MaxLog + 1, count - 1, count, -1, count + 1} {
			wantNoFold(t, "more than MaxLog", all[:count:count], n)
		}
	}
}

// A log in which one is no call is none, also where that one stands behind the first n.
func TestFoldPoolOfWhatIsNoCall(t *testing.T) {
	ops, _ := someHistory()
	for _, wrong := range wrongCalls() {
		if impl.OpOk(wrong) {
			continue
		}
		for at := range len(ops) {
			log := logOf(ops...)
			log[at].Op = wrong
			for _, n := range []int{0, at, at + 1, len(log)} {
				wantNoFold(t, fmt.Sprintf("number %d is %+v", at, wrong), log, n)
			}
		}
		wantNoFold(t, "alone", logOf(wrong), 0)
		wantNoFold(t, "alone", logOf(wrong), 1)
	}
	full := logOf(slices.Repeat([]impl.Op{{Kind: impl.OpDrain}}, impl.MaxLog)...)
	full[impl.MaxLog-1].Op.Vol = 1
	for _, n := range []int{0, 1, impl.MaxLog - 1, impl.MaxLog} {
		wantNoFold(t, "the last one of MaxLog", full, n)
	}
}

// A call that can't be done changes nothing; those behind it are done all the same, and false is told from it on.
func TestFoldPoolOfCallsThatCannotBeDone(t *testing.T) {
	ops, pools := someHistory()
	for at := range len(ops) + 1 {
		for _, o := range eachKind() {
			if _, done := plainDo(pools[at], o); done {
				continue
			}
			log := logOf(slices.Insert(slices.Clone(ops), at, o)...)
			for n := range len(log) + 1 {
				if n <= at {
					wantFold(t, "behind the first n", log, n, pools[n], true)
				} else {
					wantFold(t, fmt.Sprintf("number %d is %+v", at, o), log, n, pools[n-1], false)
				}
			}
		}
	}
}

func TestFoldPoolOfEachKind(t *testing.T) {
	setups := [][]impl.Op{nil, {{Kind: impl.OpCreate}, {Kind: impl.OpCreate, Vol: 3}}, {{Kind: impl.OpCreate}, {Kind: impl.OpWrite, At: 1, Text: "a"}, {Kind: impl.OpCreate, Vol: 2}}}
	for _, setup := range setups {
		before, _ := impl.FoldPool(logOf(setup...), len(setup))
		for _, o := range eachKind() {
			want, wantDone := plainDo(before, o)
			log := logOf(append(slices.Clone(setup), o)...)
			wantFold(t, fmt.Sprintf("%+v", o), log, len(log), want, wantDone)
			wantFold(t, fmt.Sprintf("%+v is behind", o), log, len(setup), before, true)
		}
	}
	for kind := impl.OpRead; kind <= impl.OpRecover; kind++ {
		wantFold(t, "a kind that is none of the pool's", logOf(someOps(kind)[0]), 1, emptyPool(), false)
	}
}

// plainFold is of a log that is one, and of n that is in it.
func plainFold(log []impl.Event, n int) (impl.Pool, bool) {
	f, all := flatModelOf(emptyPool()), true
	for i := 0; i < n; i++ {
		all = f.do(log[i].Op) && all
	}
	return f.pool(), all
}

// likelyCall is a call that can be done on the pool, mostly.
func likelyCall(r *rand.Rand, p impl.Pool) impl.Op {
	o := randomCall(r)
	for range 6 {
		if _, done := plainDo(p, o); done {
			return o
		}
		o = randomCall(r)
	}
	return o
}

func randomLog(r *rand.Rand, count int) []impl.Event {
	var log []impl.Event
	p := emptyPool()
	for i := range count {
		o := likelyCall(r, p)
		p, _ = plainDo(p, o)
		log = append(log, impl.Event{Host: r.Intn(impl.MaxHosts), Txn: 1 + i, Op: o})
	}
	return log
}

func TestManyFoldsAsSaid(t *testing.T) {
	r := rand.New(rand.NewSource(1000))
	whole, broken := 0, 0
	for range 600 {
		log := randomLog(r, r.Intn(40))
		for range 5 {
			n := r.Intn(len(log) + 1)
			want, all := plainFold(log, n)
			wantFold(t, "random", log, n, want, all)
			if all {
				whole++
			} else {
				broken++
			}
		}
		if t.Failed() {
			return
		}
	}
	if whole < 500 || broken < 500 {
		t.Errorf("%d logs could be done whole, %d could not", whole, broken)
	}
}
