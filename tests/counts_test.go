package tests

import (
	"fmt"
	"math/rand"
	"slices"
	"testing"

	"loop.example/g00761/impl"
)

// countsOf asks twice, that the sectors and the room behind them stay, and that no answer shares memory with another one.
func countsOf(t *testing.T, what string, s []string) []int {
	t.Helper()
	room := roomyList(s, "spare")
	before := allOf(room)
	first, second := impl.Counts(room), impl.Counts(room)
	if !slices.Equal(allOf(room), before) {
		t.Errorf("%s: Counts changed its sectors, or the room behind them", what)
	}
	kept := slices.Clone(first)
	fill(second, -99)
	if !slices.Equal(first, kept) {
		t.Errorf("%s: two answers of Counts share memory", what)
	}
	return kept
}

func wantCounts(t *testing.T, what string, s []string, want []int) {
	t.Helper()
	if got := countsOf(t, what, s); !slices.Equal(got, want) {
		t.Errorf("%s: Counts is %v, not %v", what, got, want)
	}
}

func wantRefsOk(t *testing.T, what string, s []string, want bool) {
	t.Helper()
	room := roomyList(s, "spare")
	before := allOf(room)
	if got := impl.RefsOk(room); got != want {
		t.Errorf("%s: RefsOk is %v", what, got)
	}
	if !slices.Equal(allOf(room), before) {
		t.Errorf("%s: RefsOk changed its sectors, or the room behind them", what)
	}
}

// countsWith is how often each block is held where these are and no other ones, a block once for each time.
func countsWith(blocks ...int) []int {
	out := make([]int, impl.Blocks)
	for _, b := range blocks {
		out[b]++
	}
	return out
}

func mapOut(i int, blocks ...int) impl.Out {
	text, _ := plainShow("v", impl.VolSec{Lease: planNo, On: true, Map: places(blocks...)})
	return impl.Out{Sector: 9 + i, Text: text}
}

func freesOut(host int, blocks ...int) impl.Out {
	text, _ := plainShow("f", blocks)
	return impl.Out{Sector: 6 + host, Text: text}
}

// refsOuts are the groups' sectors with these counts of all blocks.
func refsOuts(counts []int) []impl.Out {
	var out []impl.Out
	for i := range impl.MaxGroups {
		text, _ := plainShow("g", impl.GroupSec{Lease: planNo, Refs: counts[6*i : 6*i+6]})
		out = append(out, impl.Out{Sector: 13 + i, Text: text})
	}
	return out
}

// freshWith is a Format with some sectors other than there.
func freshWith(outs ...impl.Out) []string { return changed(freshPool(), outs...) }

func TestCountsOfANewDisk(t *testing.T) {
	wantCounts(t, "a new disk", freshPool(), make([]int, impl.Blocks))
	wantRefsOk(t, "a new disk", freshPool(), true)
	if len(impl.Counts(impl.Format())) != 18 {
		t.Error("not each block is counted")
	}
}

func TestCountsWhereThereIsNoPool(t *testing.T) {
	held := freshWith(append(refsOuts(countsWith(1, 2)), mapOut(0, 1, 2))...)
	for _, right := range [][]string{freshPool(), held, usedPool(), allOpen()} {
		for _, broken := range brokenPools(right) {
			wantCounts(t, broken.what, broken.sectors, nil)
			wantRefsOk(t, broken.what, broken.sectors, false)
		}
	}
}

func TestCountsOfEachPlace(t *testing.T) {
	for block := range impl.Blocks {
		for i := range impl.MaxVols {
			for at := range impl.VBlocks {
				blocks := places()
				blocks[at] = block
				wantHeld(t, fmt.Sprint("volume ", i, " has it at ", at), countsWith(block), mapOut(i, blocks...))
			}
		}
		for host := range impl.MaxHosts {
			for many := range impl.MaxFrees {
				others := slices.Repeat([]int{(block + 1) % impl.Blocks}, many)
				list := append(slices.Clone(others), block)
				wantHeld(t, fmt.Sprint("host ", host, " has freed it"), countsWith(list...), freesOut(host, list...))
				slices.Reverse(list)
				wantHeld(t, fmt.Sprint("host ", host, " has freed it first"), countsWith(list...), freesOut(host, list...))
			}
		}
	}
}

// wantHeld asks for the counts of a new disk with these sectors other than there, and that the Refs must be just these,
// where they can be.
func wantHeld(t *testing.T, what string, counts []int, outs ...impl.Out) {
	t.Helper()
	s := freshWith(outs...)
	wantCounts(t, what, s, counts)
	wantRefsOk(t, what+", and no Ref says so", s, slices.Max(counts) == 0)
	if slices.Max(counts) <= impl.MaxRef {
		wantRefsOk(t, what+", and the Refs say so", changed(s, refsOuts(counts)...), true)
	}
}

func TestCountsOfBlocksThatAreHeldMoreThanOnce(t *testing.T) {
	for block := range impl.Blocks {
		next := (block + 5) % impl.Blocks
		wantHeld(t, "in two Maps", countsWith(block, block), mapOut(0, block), mapOut(1, block))
		wantHeld(t, "in two Maps", countsWith(block, block), mapOut(1, -1, -1, -1, block), mapOut(3, -1, block))
		wantHeld(t, "in one Map twice", countsWith(block, block), mapOut(2, block, -1, block))
		wantHeld(t, "in one Map four times", countsWith(block, block, block, block), mapOut(2, block, block, block, block))
		wantHeld(t, "freed and held", countsWith(block, block), mapOut(2, -1, block), freesOut(0, block))
		wantHeld(t, "freed, and another one held", countsWith(block, next), mapOut(2, next), freesOut(1, block))
		wantHeld(t, "freed and held twice", countsWith(block, block, block, next), mapOut(1, block, block), freesOut(2, next, block))
		wantHeld(t, "in two lists", countsWith(block, block), freesOut(0, block), freesOut(2, block))
		wantHeld(t, "in one list twice", countsWith(block, block, next), freesOut(1, block, next, block))
		wantHeld(t, "in all of them", countsWith(slices.Repeat([]int{block}, 7)...),
			mapOut(0, block), mapOut(1, block), mapOut(2, block), mapOut(3, block), freesOut(0, block), freesOut(1, block), freesOut(2, block))
	}
}

// No count that a group can say is enough for the most that can hold a block.
func TestCountsAboveMaxRef(t *testing.T) {
	all := slices.Repeat([]int{17}, 12)
	for _, more := range []int{0, 1, 12} {
		s := freshWith(mapOut(0, 17, 17, 17, 17), mapOut(1, 17, 17, 17, 17), mapOut(2, 17, 17, 17, 17), mapOut(3, 17, 17, 17, 17), freesOut(1, all[:more]...))
		counts := countsWith(slices.Repeat([]int{17}, 16+more)...)
		wantCounts(t, "held by all places", s, counts)
		counts[17] = impl.MaxRef
		wantRefsOk(t, "held by all places, and the Ref is MaxRef", changed(s, refsOuts(counts)...), more == 0)
	}
	wantCounts(t, "held by all there is", freshWith(
		mapOut(0, 17, 17, 17, 17), mapOut(1, 17, 17, 17, 17), mapOut(2, 17, 17, 17, 17), mapOut(3, 17, 17, 17, 17),
		freesOut(0, all...), freesOut(1, all...), freesOut(2, all...)), countsWith(slices.Repeat([]int{17}, 52)...))
}

// What the groups say, what stands in the blocks and what the journals will write is not counted.
func TestCountsOfNothingElse(t *testing.T) {
	s := freshWith(mapOut(1, 3, 9), freesOut(2, 9))
	want := countsWith(3, 9, 9)
	wantCounts(t, "as it is", s, want)
	wantCounts(t, "the groups say others", changed(s, refsOuts(slices.Repeat([]int{7}, 18))...), want)
	wantCounts(t, "the blocks have texts", changed(s, blockOut(3, "a"), blockOut(4, fullText())), want)
	for host := range impl.MaxHosts {
		wantCounts(t, "a journal is open", changed(s, journalOf(host, 4, freesOut(1, 5, 6), mapOut(0, 1, 2), mapOut(1))), want)
	}
	for _, lease := range rightLeases() {
		text, _ := plainShow("v", impl.VolSec{Lease: lease, On: true, Map: []int{3, 9, -1, -1}})
		wantCounts(t, "any Lease", changed(s, impl.Out{Sector: 10, Text: text}), want)
	}
	wantCounts(t, "none is On", donePool(), countsWith(106%18, 6, 107%18, 7, 108%18, 8))
}

// A Ref that is one more or one less than its Count is wrong, of whatever block.
func TestRefsBesideTheirCounts(t *testing.T) {
	setups := map[string][]impl.Out{
		"nothing held":   nil,
		"some held":      {mapOut(0, 0, 1, 1, 17), mapOut(3, 0, 6, 12)},
		"freed and held": {mapOut(0, 0, 5, 11), mapOut(2, 17), freesOut(0, 0, 5), freesOut(1, 17, 17), freesOut(2, 0)},
		"some freed":     {freesOut(0, 0, 6), freesOut(1, 6), freesOut(2, 17)},
	}
	for what, setup := range setups {
		s := freshWith(setup...)
		counts := impl.Counts(s)
		wantRefsOk(t, what, changed(s, refsOuts(counts)...), true)
		for block := range impl.Blocks {
			for n := range impl.MaxRef + 1 {
				other := slices.Clone(counts)
				other[block] = n
				wantRefsOk(t, fmt.Sprint(what, ": block ", block, " has Ref ", n), changed(s, refsOuts(other)...), n == counts[block])
			}
			next := (block + 1) % impl.Blocks
			if counts[block] != counts[next] {
				other := slices.Clone(counts)
				other[block], other[next] = other[next], other[block]
				wantRefsOk(t, what+": the Refs of two blocks stand elsewhere", changed(s, refsOuts(other)...), false)
			}
		}
	}
}

// A block that is freed and held counts for both: neither says the whole.
func TestRefsOfABlockThatIsFreedAndHeld(t *testing.T) {
	for block := range impl.Blocks {
		for ref := range 5 {
			counts := make([]int, impl.Blocks)
			counts[block] = ref
			groups := refsOuts(counts)
			both := changed(freshWith(mapOut(1, block), freesOut(0, block)), groups...)
			wantRefsOk(t, fmt.Sprint("freed and held, with Ref ", ref), both, ref == 2)
			wantRefsOk(t, fmt.Sprint("freed, with Ref ", ref), changed(freshWith(freesOut(0, block)), groups...), ref == 1)
			wantRefsOk(t, fmt.Sprint("held, with Ref ", ref), changed(freshWith(mapOut(1, block)), groups...), ref == 1)
			twice := changed(freshWith(mapOut(1, block), mapOut(2, block), freesOut(2, block, block)), groups...)
			wantRefsOk(t, fmt.Sprint("freed twice and held twice, with Ref ", ref), twice, ref == 4)
		}
	}
}

// RefsOk asks what settled, not what stands there.
func TestRefsOfSectorsThatSettle(t *testing.T) {
	groups := refsOuts(countsWith(4, 7, 7))
	maps := []impl.Out{mapOut(0, 4, 7), mapOut(2, 7)}
	right := append(slices.Clone(maps), groups...)
	for host := range impl.MaxHosts {
		wantRefsOk(t, "the journal makes it so", freshWith(journalOf(host, 2, right...)), true)
		wantRefsOk(t, "the journal makes the Maps so", freshWith(append(groups, journalOf(host, 2, maps...))...), true)
		wantRefsOk(t, "the journal makes the Refs so", freshWith(append(maps, journalOf(host, 2, groups...))...), true)
		wantRefsOk(t, "the journal writes what stands there", freshWith(append(right, journalOf(host, 2, right...))...), true)
		wantRefsOk(t, "the journal makes the Maps otherwise", freshWith(append(right, journalOf(host, 2, mapOut(2)))...), false)
		wantRefsOk(t, "the journal makes one Ref otherwise", freshWith(append(right, journalOf(host, 2, refsOuts(countsWith(4, 7))[1]))...), false)
		wantRefsOk(t, "the journal frees what is held", freshWith(append(right, journalOf(host, 2, freesOut(1, 4)))...), false)
		wantRefsOk(t, "the journal makes a part of it so", freshWith(journalOf(host, 2, right[:3]...)), false)
	}
	two := freshWith(journalOf(0, 2, maps...), journalOf(2, 9, groups...))
	wantRefsOk(t, "two journals make it so", two, true)
	wantRefsOk(t, "one of two journals makes it so", changed(two, doneOf(2, 9)), false)
	wantCounts(t, "two journals are open", two, make([]int, impl.Blocks))
}

func TestRefsWhereAnOutSpoilsThePool(t *testing.T) {
	for host := range impl.MaxHosts {
		for sector := range impl.Sectors {
			s := freshWith(journalOf(host, 2, spoiling(sector)))
			wantRefsOk(t, fmt.Sprint("host ", host, " spoils sector ", sector), s, sector == 3+host)
			wantCounts(t, "the journal has not been done", s, make([]int, impl.Blocks))
		}
	}
}

func plainCounts(s []string) []int {
	if !impl.PoolOk(s) {
		return nil
	}
	p := planPool{}
	for i := range 4 {
		sec, _ := impl.ReadVol(s[9+i])
		p.vols = append(p.vols, sec)
	}
	for i := range 3 {
		frees, _ := impl.ReadFrees(s[6+i])
		p.frees = append(p.frees, frees)
	}
	var out []int
	for b := range 18 {
		out = append(out, p.held(b))
	}
	return out
}

func plainRefsOk(s []string) bool {
	s = plainSettle(s)
	if !impl.PoolOk(s) {
		return false
	}
	for b, n := range plainCounts(s) {
		group, _ := impl.ReadGroup(s[13+b/6])
		if group.Refs[b%6] != n {
			return false
		}
	}
	return true
}

func TestManyCountsAsSaid(t *testing.T) {
	r := rand.New(rand.NewSource(1001))
	met := map[bool]int{}
	for range 1500 {
		p := randomPool(r)
		s := p.sectors()
		wantCounts(t, "random", s, plainCounts(s))
		wantRefsOk(t, "random", s, true)
		block := r.Intn(impl.Blocks)
		switch r.Intn(4) {
		case 0:
			g := p.groups[block/6].Refs
			g[block%6] = min(max(g[block%6]+2*r.Intn(2)-1, 0), impl.MaxRef)
		case 1:
			if v := p.vols[r.Intn(4)]; v.On {
				v.Map[r.Intn(4)] = r.Intn(impl.Blocks+1) - 1
			}
		case 2:
			if list := p.frees[r.Intn(3)]; len(list) > 0 {
				list[r.Intn(len(list))] = block
			}
		}
		s = p.sectors()
		wantCounts(t, "one is another", s, plainCounts(s))
		wantRefsOk(t, "one is another", s, p.countsAreRight())
		met[p.countsAreRight()]++
		open := randomDisk(r, 6, r.Intn(3))
		wantCounts(t, "with journals", open, plainCounts(open))
		wantRefsOk(t, "with journals", open, plainRefsOk(open))
		if t.Failed() {
			return
		}
	}
	if met[true] < 200 || met[false] < 200 {
		t.Errorf("the counts are right and wrong: %v", met)
	}
}

// What a plan writes keeps RefsOk, where its journal has landed alone as well as where its Outs have.
func TestPlansKeepRefsOk(t *testing.T) {
	r := rand.New(rand.NewSource(1002))
	done := 0
	for range 3000 {
		p := randomPool(r)
		me := impl.Lease{Host: r.Intn(impl.MaxHosts), Epoch: 1 + r.Intn(3)}
		p.shareOut(r, me)
		ops := someOps(1 + r.Intn(impl.OpDrain))
		o := ops[r.Intn(len(ops))]
		plan := impl.MakePlan(p.view(me), o)
		if plan.Code != impl.PlOk || len(plan.Outs) == 0 {
			continue
		}
		done++
		s := journaled(p.sectors(), me, o, plan)
		wantRefsOk(t, fmt.Sprintf("behind the journal of %+v", o), s, true)
		for _, out := range plan.Outs {
			s = changed(s, out)
			wantRefsOk(t, fmt.Sprintf("behind some Outs of %+v", o), s, true)
		}
		wantRefsOk(t, fmt.Sprintf("behind %+v", o), changed(s, doneOf(me.Host, 1)), true)
		if t.Failed() {
			return
		}
	}
	if done < 500 {
		t.Errorf("%d plans of 3000 write anything", done)
	}
}
