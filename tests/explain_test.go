package tests

import (
	"fmt"
	"math/rand"
	"slices"
	"testing"

	"loop.example/g00761/impl"
)

func wantExplain(t *testing.T, what string, w impl.World, want bool) {
	t.Helper()
	worldStays(t, what, w, func(w impl.World) {
		if got := impl.Explain(w); got != want {
			t.Errorf("%s: Explain is %v", what, got)
		}
	})
}

// sectorsOf is a disk that says this pool, with a block for each place.
func sectorsOf(p impl.Pool) []string {
	s := freshPool()
	block := 0
	for i, v := range p.Vols {
		sec := impl.VolSec{Lease: planNo, On: v.On, Map: places()}
		for at, has := range v.Has {
			if has {
				sec.Map[at], s[16+block] = block, v.Texts[at]
				block++
			}
		}
		s[9+i] = impl.ShowVol(sec)
	}
	return s
}

// explained has this Log, a disk that says what that makes, and these Replies.
func explained(log []impl.Event, replies ...impl.Reply) impl.World {
	w := impl.NewWorld()
	p, _ := plainFold(log, len(log))
	w.Disk.Sectors, w.Log, w.Replies = sectorsOf(p), log, replies
	return w
}

func readReply(vol int, place int, data string, at int) impl.Reply {
	return impl.Reply{Op: impl.Op{Kind: impl.OpRead, Vol: vol, At: place}, Data: data, At: at}
}

func TestExplainOfANewWorld(t *testing.T) {
	wantExplain(t, "a new world", impl.NewWorld(), true)
	wantExplain(t, "the zero world", impl.World{}, false)
}

func TestExplainWhereTheWorldIsNotRight(t *testing.T) {
	for _, wrong := range wrongWorlds() {
		if impl.Explain(wrong.world) {
			t.Errorf("%s: Explain is true", wrong.what)
		}
	}
	ops, _ := someHistory()
	for _, w := range []impl.World{impl.NewWorld(), explained(logOf(ops...), readReply(1, 2, "x", 3)), playOf(t, "written", written(9))} {
		wantExplain(t, "it is right", w, true)
		for what, wrong := range wrongOf(w) {
			wantExplain(t, what, wrong, false)
		}
		for sector := range 9 {
			spoilt := cloneWorld(w)
			spoilt.Disk.Sectors[sector] = "spoilt"
			wantExplain(t, fmt.Sprint("sector ", sector, " is none"), spoilt, false)
		}
	}
	full := explained(logOf(slices.Repeat([]impl.Op{{Kind: impl.OpDrain}}, impl.MaxLog)...))
	wantExplain(t, "MaxLog", full, true)
	full.Log = append(full.Log, full.Log[0])
	wantExplain(t, "MaxLog and one more", full, false)
	for kind := impl.OpRead; kind <= impl.OpRecover; kind++ {
		wantExplain(t, "a kind that is none of the pool's", explained(logOf(someOps(kind)[0])), false)
	}
	read := explained(nil, slices.Repeat([]impl.Reply{readReply(0, 0, "", 0)}, impl.MaxLog)...)
	wantExplain(t, "MaxLog of Replies", read, true)
	read.Replies = append(read.Replies, readReply(0, 0, "", 0))
	wantExplain(t, "MaxLog of Replies and one more", read, false)
}

func TestExplainOfALog(t *testing.T) {
	ops, pools := someHistory()
	for count := range len(ops) + 1 {
		log := logOf(ops[:count]...)
		for n, p := range pools {
			w := explained(log)
			w.Disk.Sectors = sectorsOf(p)
			wantExplain(t, fmt.Sprint("the disk says ", n, " of ", count), w, samePool(p, pools[count]))
		}
	}
}

// The calls that could not be done change nothing, so the disk says the same, and still it is not explained.
func TestExplainOfALogThatCannotBeDone(t *testing.T) {
	ops, pools := someHistory()
	for at := range len(ops) + 1 {
		for kind := impl.OpCreate; kind <= impl.OpSnap; kind++ {
			for _, o := range someOps(kind) {
				if _, done := plainDo(pools[at], o); done {
					continue
				}
				w := explained(logOf(slices.Insert(slices.Clone(ops), at, o)...))
				wantExplain(t, fmt.Sprintf("number %d is %+v", at, o), w, false)
			}
		}
	}
	wantExplain(t, "deleted out of nothing", explained(logOf(impl.Op{Kind: impl.OpDelete})), false)
}

// otherPools are this pool with one thing other than there.
func otherPools(p impl.Pool) []impl.Pool {
	var out []impl.Pool
	add := func(i int, change func(v *impl.PVol)) {
		other := clonePool(p)
		change(&other.Vols[i])
		out = append(out, other)
	}
	for i, v := range p.Vols {
		if v.On {
			add(i, func(v *impl.PVol) { *v = off() })
		} else {
			add(i, func(v *impl.PVol) { v.On = true })
			continue
		}
		for at, has := range v.Has {
			add(i, func(v *impl.PVol) { v.Has[at], v.Texts[at] = !has, "" })
			if has {
				add(i, func(v *impl.PVol) { v.Texts[at] = "another" })
				add(i, func(v *impl.PVol) { v.Texts[at] += "\x00" })
			}
		}
	}
	return out
}

func TestExplainOfADiskThatSaysAnotherPool(t *testing.T) {
	ops, pools := someHistory()
	for count, p := range pools {
		w := explained(logOf(ops[:count]...))
		for _, other := range otherPools(p) {
			if samePool(other, p) || !plainModelOk(clipped(other)) {
				continue
			}
			w.Disk.Sectors = sectorsOf(other)
			wantExplain(t, fmt.Sprintf("the disk says %+v, and not %+v", other, p), w, false)
		}
	}
	w := impl.NewWorld()
	w.Disk.Sectors = sectorsOf(pools[1])
	wantExplain(t, "out of nothing", w, false)
}

// clipped is the pool with texts that fit.
func clipped(p impl.Pool) impl.Pool {
	p = clonePool(p)
	for _, v := range p.Vols {
		for at, text := range v.Texts {
			v.Texts[at] = text[:min(len(text), impl.MaxBlock)]
		}
	}
	return p
}

// What the disk says is what settles there.
func TestExplainOfWhatSettles(t *testing.T) {
	ops, pools := someHistory()
	done := 0
	for host := range impl.MaxHosts {
		for count := 1; count < len(pools); count++ {
			before, after := sectorsOf(pools[count-1]), sectorsOf(pools[count])
			// The blocks have landed ahead of the journal.
			copy(before[16:], after[16:])
			if said, _ := impl.Abstract(before); !samePool(said, pools[count-1]) {
				continue
			}
			var outs []impl.Out
			for sector := 9; sector < 13; sector++ {
				if before[sector] != after[sector] {
					outs = append(outs, impl.Out{Sector: sector, Text: after[sector]})
				}
			}
			if len(outs) == 0 {
				continue
			}
			w := explained(logOf(ops[:count]...))
			w.Disk.Sectors = before
			wantExplain(t, "nobody has done it", w, false)
			w.Disk = landed(w.Disk, journalOf(host, 1, outs...))
			wantExplain(t, "the journal does it", w, true)
			w.Disk = underWay(landed(w.Disk, doneOf(host, 1)), host, journalOf(host, 1, outs...))
			wantExplain(t, "the journal is under way", w, false)
			done++
		}
		spoilt := impl.NewWorld()
		spoilt.Disk = landed(spoilt.Disk, journalOf(host, 1, spoiling(20)))
		wantExplain(t, "nothing can be read of what settles", spoilt, false)
	}
	if done < 12 {
		t.Errorf("%d journals did what the disk did not say yet", done)
	}
}

// How often a block is held, and who has which lease, is nothing to Explain.
func TestExplainHangsOnNoCountAndNoLease(t *testing.T) {
	ops, _ := someHistory()
	w := explained(logOf(ops...))
	for _, outs := range [][]impl.Out{refsOuts(slices.Repeat([]int{9}, 18)), {freesOut(0, 1, 1)}, {recOut(1, planMe)}, {doneOf(2, 9)}} {
		other := cloneWorld(w)
		other.Disk = landed(other.Disk, outs...)
		wantExplain(t, "other sectors", other, true)
	}
	for i := range impl.MaxVols {
		sec, _ := impl.ReadVol(w.Disk.Sectors[9+i])
		sec.Lease = planMe
		other := cloneWorld(w)
		other.Disk = landed(other.Disk, impl.Out{Sector: 9 + i, Text: impl.ShowVol(sec)})
		wantExplain(t, "another lease", other, true)
	}
	for _, h := range []impl.Host{upHost(), midHost(5), {Id: 1, Epoch: 1, Up: true}} {
		other := cloneWorld(w)
		other.Hosts[1], other.Disk.Epochs[1] = h, 2
		wantExplain(t, "another host", other, true)
	}
}

// amid puts the Reply first, in the midst, last and alone among others that are true.
func amid(reply impl.Reply) [][]impl.Reply {
	true1 := impl.Reply{Host: 2, Op: impl.Op{Kind: impl.OpTake}, Code: impl.PlBusy}
	true2 := readReply(0, 3, "", 0)
	return [][]impl.Reply{{reply}, {reply, true1, true2}, {true2, reply, true1}, {true1, true2, reply}}
}

// wantTold asks for the reply at each place among others.
func wantTold(t *testing.T, what string, log []impl.Event, reply impl.Reply, want bool) {
	t.Helper()
	for _, replies := range amid(reply) {
		wantExplain(t, fmt.Sprintf("%s: %+v", what, reply), explained(log, replies...), want)
	}
}

func TestExplainOfReads(t *testing.T) {
	ops, pools := someHistory()
	log := logOf(ops...)
	texts := []string{"", "x", fullText(), "\x00", "another", "xx", fullText()[1:]}
	for at, p := range pools {
		for i := range impl.MaxVols {
			for place := range impl.VBlocks {
				stood := p.Vols[i].Texts[place]
				for _, text := range texts {
					wantTold(t, fmt.Sprintf("there stood %q", stood), log, readReply(i, place, text, at), text == stood)
				}
			}
		}
	}
}

// At says of which beginning of Log the reply is: what stood there sooner or later does not count.
func TestExplainOfReadsAtAnotherTime(t *testing.T) {
	ops := []impl.Op{{Kind: impl.OpCreate, Vol: 2}, {Kind: impl.OpWrite, Vol: 2, At: 1, Text: "first"}, {Kind: impl.OpWrite, Vol: 2, At: 1, Text: "second"}, {Kind: impl.OpDiscard, Vol: 2, At: 1}}
	stood := []string{"", "", "first", "second", ""}
	log := logOf(ops...)
	for at, text := range stood {
		for _, other := range stood {
			wantTold(t, fmt.Sprint("behind ", at), log, readReply(2, 1, other, at), other == text)
		}
		wantTold(t, "another place", log, readReply(2, 2, text, at), text == "")
		wantTold(t, "another volume", log, readReply(1, 1, text, at), text == "")
		for n := at + 1; n < len(stood); n++ {
			both := explained(log, readReply(2, 1, text, at), readReply(2, 1, stood[n], n))
			wantExplain(t, "both were told what stood there", both, true)
			both.Replies[0].At, both.Replies[1].At = n, at
			wantExplain(t, "each was told what stood at the other's time", both, text == stood[n])
			slices.Reverse(both.Replies)
			both.Replies[0].At, both.Replies[1].At = n, at
			wantExplain(t, "a later one stands ahead of a sooner one", both, true)
		}
	}
}

// What any other Reply tells is not asked for.
func TestExplainOfRepliesThatReadNothing(t *testing.T) {
	ops, _ := someHistory()
	log := logOf(ops...)
	for at := range len(log) + 1 {
		for code := impl.PlBad; code <= impl.PlFull; code++ {
			refused := readReply(1, 2, "not so", at)
			refused.Code = code
			wantTold(t, "a read that is refused", log, refused, true)
		}
		for _, o := range eachKind() {
			if o.Kind != impl.OpRead && at%4 == 0 {
				wantTold(t, "no read", log, impl.Reply{Host: 1, Op: o, Data: "not so", At: at}, true)
			}
		}
		wantTold(t, "a read", log, readReply(1, 2, "not so", at), false)
		for host := range impl.MaxHosts {
			other := readReply(1, 2, "not so", at)
			other.Host = host
			wantTold(t, "a read of each host", log, other, false)
		}
	}
}

func TestExplainOfManyReads(t *testing.T) {
	ops, pools := someHistory()
	w := explained(logOf(ops...))
	for i := range impl.MaxLog {
		at := i % len(pools)
		w.Replies = append(w.Replies, readReply(1, 2, pools[at].Vols[1].Texts[2], at))
	}
	wantExplain(t, "many reads", w, true)
	for _, i := range []int{0, 1, 200, impl.MaxLog - 2, impl.MaxLog - 1} {
		other := cloneWorld(w)
		other.Replies[i].Data += "."
		wantExplain(t, fmt.Sprint("number ", i, " was told something else"), other, false)
	}
}

func plainExplain(w impl.World) bool {
	if !plainWorldOk(w) {
		return false
	}
	made, ok := plainFold(w.Log, len(w.Log))
	said, is := plainAbstract(w.Disk.Sectors)
	ok = ok && is && samePool(made, said)
	for _, r := range w.Replies {
		then, _ := plainFold(w.Log, r.At)
		ok = ok && (r.Op.Kind != 7 || r.Code != 0 || r.Data == then.Vols[r.Op.Vol].Texts[r.Op.At])
	}
	return ok
}

// doableLog is a log each of whose calls can be done.
func doableLog(r *rand.Rand, count int) []impl.Event {
	log := randomLog(r, count)
	p := emptyPool()
	return slices.DeleteFunc(log, func(e impl.Event) bool {
		next, done := plainDo(p, e.Op)
		p = next
		return !done
	})
}

// spoilExplained makes one thing of an explained world another one, which may be explained too.
func spoilExplained(r *rand.Rand, w *impl.World) {
	switch n := r.Intn(7); {
	case n == 0 && len(w.Log) > 0:
		w.Log[r.Intn(len(w.Log))].Op = impl.Op{Kind: impl.OpDelete, Vol: r.Intn(4)}
	case n == 1 && len(w.Log) > 1:
		i := r.Intn(len(w.Log) - 1)
		w.Log[i], w.Log[i+1] = w.Log[i+1], w.Log[i]
	case n == 2 && len(w.Replies) > 0:
		w.Replies[r.Intn(len(w.Replies))].At = r.Intn(len(w.Log) + 1)
	case n == 3 && len(w.Replies) > 0:
		w.Replies[r.Intn(len(w.Replies))].Op.At = r.Intn(4)
	case n == 4 && len(w.Replies) > 0:
		w.Replies[r.Intn(len(w.Replies))].Code = r.Intn(7)
	case n == 5:
		w.Disk.Sectors[16+r.Intn(18)] = randomText(r, 2)
	case n == 6:
		w.Disk = landed(w.Disk, journalOf(r.Intn(3), 9, mapOut(r.Intn(4), r.Intn(3))))
	}
}

func TestManyExplainsAsSaid(t *testing.T) {
	t.Parallel()
	r := rand.New(rand.NewSource(1004))
	met := map[bool]int{}
	for range 2500 {
		log := doableLog(r, r.Intn(30))
		var replies []impl.Reply
		for range r.Intn(12) {
			at, i, place := r.Intn(len(log)+1), r.Intn(4), r.Intn(4)
			then, _ := plainFold(log, at)
			reply := readReply(i, place, then.Vols[i].Texts[place], at)
			reply.Host = r.Intn(3)
			replies = append(replies, reply)
		}
		w := explained(log, replies...)
		wantExplain(t, "random", w, true)
		spoilExplained(r, &w)
		want := plainExplain(w)
		met[want]++
		wantExplain(t, fmt.Sprintf("one is another: %+v %+v", w.Log, w.Replies), w, want)
		if t.Failed() {
			return
		}
	}
	if met[true] < 300 || met[false] < 300 {
		t.Errorf("so many are explained: %v", met)
	}
}
