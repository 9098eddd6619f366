package tests

import (
	"fmt"
	"math"
	"math/rand"
	"slices"
	"strings"
	"testing"

	"loop.example/g00761/impl"
)

func doneText(txn int) string {
	text, _ := plainShow("j", impl.Journal{Txn: txn, Done: true})
	return text
}

// openText is a Journal that is not Done, told by the plain writer.
func openText(txn int, outs ...impl.Out) string {
	text, _ := plainShow("j", impl.Journal{Txn: txn, Op: impl.Op{Kind: 1}, Outs: outs})
	return text
}

// newText is a right text for that sector; another n makes another text.
func newText(sector int, n int) string {
	var text string
	lease := impl.Lease{Host: 1, Epoch: 1 + n}
	switch {
	case sector < 3:
		text, _ = plainShow("h", impl.HostSec{Beat: n, Rec: lease})
	case sector < 6:
		text = doneText(n)
	case sector < 9:
		text, _ = plainShow("f", []int{n % impl.Blocks, sector})
	case sector < 13:
		text, _ = plainShow("v", impl.VolSec{Lease: lease, Map: places()})
	case sector < 16:
		text, _ = plainShow("g", impl.GroupSec{Lease: lease, Refs: refs()})
	default:
		text = fmt.Sprint("block ", sector, " ", n)
	}
	return text
}

func outOf(sector int, n int) impl.Out { return impl.Out{Sector: sector, Text: newText(sector, n)} }

// donePool is a right pool in which no Journal is open; no two of its sectors are alike.
func donePool() []string {
	var s []string
	for sector := range impl.Sectors {
		s = append(s, newText(sector, 100+sector))
	}
	return s
}

// poolWith is donePool with some sectors other than there.
func poolWith(outs ...impl.Out) []string {
	s := donePool()
	for _, out := range outs {
		s[out.Sector] = out.Text
	}
	return s
}

// journalOf is a Journal at its place, that is not Done and has these Outs.
func journalOf(host int, txn int, outs ...impl.Out) impl.Out {
	return impl.Out{Sector: 3 + host, Text: openText(txn, outs...)}
}

func doneOf(host int, txn int) impl.Out { return impl.Out{Sector: 3 + host, Text: doneText(txn)} }

// changed is the list with some sectors other than there.
func changed(s []string, outs ...impl.Out) []string {
	out := slices.Clone(s)
	for _, o := range outs {
		out[o.Sector] = o.Text
	}
	return out
}

// apart asks twice, and that the argument and the room behind it stay, and that nothing is shared.
func apart(t *testing.T, what string, s []string, ask func(s []string) ([]string, bool)) ([]string, bool) {
	t.Helper()
	room := append(slices.Clone(s), "spare", "spare", "spare")
	before := slices.Clone(room)
	first, done := ask(room[:len(s)])
	second, again := ask(room[:len(s)])
	if !slices.Equal(room, before) {
		t.Errorf("%s: the argument was changed, or the room behind it", what)
	}
	if !slices.Equal(first, second) || done != again {
		t.Errorf("%s: two answers are %q %v and %q %v", what, first, done, second, again)
	}
	kept := slices.Clone(first)
	spare := second[:cap(second)]
	for i := range spare {
		spare[i] = "spoiled"
	}
	if !slices.Equal(first, kept) || !slices.Equal(room, before) {
		t.Errorf("%s: an answer shares memory", what)
	}
	return kept, done
}

func redoOf(t *testing.T, what string, s []string, host int) ([]string, bool) {
	t.Helper()
	return apart(t, what, s, func(s []string) ([]string, bool) { return impl.Redo(s, host) })
}

func settleOf(t *testing.T, what string, s []string) []string {
	t.Helper()
	left, _ := apart(t, what, s, func(s []string) ([]string, bool) { return impl.Settle(s), true })
	return left
}

// wantSectors tells just the sectors that differ.
func wantSectors(t *testing.T, what string, got []string, want []string) {
	t.Helper()
	if len(got) != len(want) {
		t.Errorf("%s: there are %d sectors, not %d", what, len(got), len(want))
		return
	}
	for i := range got {
		if got[i] != want[i] {
			t.Errorf("%s: sector %d is %q, not %q", what, i, got[i], want[i])
		}
	}
}

func wantRedo(t *testing.T, what string, s []string, host int, want []string, wantDone bool) {
	t.Helper()
	got, done := redoOf(t, what, s, host)
	if done != wantDone {
		t.Errorf("%s: Redo of host %d says %v", what, host, done)
	}
	wantSectors(t, fmt.Sprint(what, ": Redo of host ", host), got, want)
}

func wantSettle(t *testing.T, what string, s []string, want []string) {
	t.Helper()
	wantSectors(t, what+": Settle", settleOf(t, what, s), want)
}

func hostsAndNone() []int {
	return []int{0, 1, 2, -1, impl.MaxHosts, math.MinInt, math.MaxInt, impl.Sectors, -impl.MaxHosts}
}

type brokenPool struct {
	what    string
	sectors []string
}

func brokenPools(right []string) []brokenPool {
	out := []brokenPool{
		{"no sectors", nil},
		{"three sectors", right[:3]},
		{"no block", right[:16]},
		{"one sector too few", right[:impl.Sectors-1]},
		{"the first sector lacks", right[1:]},
		{"one sector too many", append(slices.Clone(right), "")},
		{"every sector twice", append(slices.Clone(right), right...)},
		{"sectors without bytes", make([]string, impl.Sectors)},
	}
	for sector := range 16 {
		other := right[(sector+7)%16]
		for _, text := range []string{"", "spoiled", right[sector] + "\x00", right[sector][1:], other} {
			out = append(out, brokenPool{fmt.Sprintf("sector %d is %q", sector, text), changed(right, impl.Out{Sector: sector, Text: text})})
		}
	}
	for sector := 16; sector < impl.Sectors; sector++ {
		long := impl.Out{Sector: sector, Text: strings.Repeat("b", impl.MaxBlock+1)}
		out = append(out, brokenPool{fmt.Sprint("a block too long in sector ", sector), changed(right, long)})
	}
	return out
}

// allOpen has a Journal of each host that is not Done.
func allOpen() []string {
	return poolWith(
		journalOf(0, 1, outOf(6, 1), outOf(9, 1)),
		journalOf(1, 128, outOf(7, 2), outOf(10, 2), outOf(13, 2)),
		journalOf(2, impl.MaxTxn, outOf(33, 3)),
	)
}

func TestRedoWhereThereIsNoPool(t *testing.T) {
	for _, right := range [][]string{freshPool(), donePool(), allOpen()} {
		for _, broken := range brokenPools(right) {
			wantPool(t, broken.what, broken.sectors, false)
			for _, host := range hostsAndNone() {
				wantRedo(t, broken.what, broken.sectors, host, nil, false)
			}
			wantSettle(t, broken.what, broken.sectors, nil)
		}
	}
}

func TestRedoWhereABlockIsFull(t *testing.T) {
	for sector := 16; sector < impl.Sectors; sector++ {
		full := impl.Out{Sector: sector, Text: strings.Repeat("b", impl.MaxBlock)}
		s := poolWith(full, journalOf(1, 5, outOf(9, 1)))
		want := changed(s, doneOf(1, 5), outOf(9, 1))
		wantRedo(t, "a full block", s, 1, want, true)
		wantRedo(t, "a full block", s, 0, s, false)
		wantSettle(t, "a full block", s, want)
	}
}

func TestRedoOfNoHost(t *testing.T) {
	for _, s := range [][]string{freshPool(), donePool(), usedPool(), allOpen()} {
		for _, host := range hostsAndNone()[impl.MaxHosts:] {
			wantRedo(t, "no host", s, host, s, false)
		}
	}
}

func TestRedoOfEachHost(t *testing.T) {
	s := allOpen()
	wantRedo(t, "all open", s, 0, changed(s, outOf(6, 1), outOf(9, 1), doneOf(0, 1)), true)
	wantRedo(t, "all open", s, 1, changed(s, outOf(7, 2), outOf(10, 2), outOf(13, 2), doneOf(1, 128)), true)
	wantRedo(t, "all open", s, 2, changed(s, outOf(33, 3), doneOf(2, impl.MaxTxn)), true)
}

func TestRedoOfAJournalThatIsDone(t *testing.T) {
	for host := range impl.MaxHosts {
		for _, s := range [][]string{freshPool(), donePool(), usedPool(), allOpen()} {
			for _, txn := range []int{0, 1, 127, 128, impl.MaxTxn} {
				done := changed(s, doneOf(host, txn))
				wantRedo(t, "done", done, host, done, false)
			}
		}
	}
}

// lastOuts are n Outs with the longest texts.
func lastOuts(n int) []impl.Out {
	var outs []impl.Out
	for sector := impl.Sectors - n; sector < impl.Sectors; sector++ {
		outs = append(outs, impl.Out{Sector: sector, Text: strings.Repeat(fmt.Sprint(sector), 30)})
	}
	return outs
}

// windowOuts are n Outs from that sector on, right ones.
func windowOuts(from int, n int) []impl.Out {
	var outs []impl.Out
	for sector := from; sector < from+n; sector++ {
		outs = append(outs, outOf(sector, 1))
	}
	return outs
}

func TestRedoWritesEachOut(t *testing.T) {
	for host := range impl.MaxHosts {
		for _, n := range []int{1, 2, 5, impl.MaxOuts} {
			all := [][]impl.Out{lastOuts(n)}
			for from := 0; from+n <= impl.Sectors; from++ {
				all = append(all, windowOuts(from, n))
			}
			for _, outs := range all {
				for _, txn := range []int{1, impl.MaxTxn} {
					s := changed(allOpen(), journalOf(host, txn, outs...))
					want := changed(changed(s, outs...), doneOf(host, txn))
					wantRedo(t, fmt.Sprint(outs), s, host, want, true)
				}
			}
		}
	}
}

// outTexts are texts for one sector, right ones and wrong ones.
func outTexts(sector int) []string {
	return []string{newText(sector, 1), newText(sector, 1) + "\x00", "", "no sector", strings.Repeat("\xff", 60), newText((sector+7)%16, 1), openText(3, outOf(9, 4)), strings.Repeat("b", 16), strings.Repeat("b", 17)}
}

func TestRedoOfEachSector(t *testing.T) {
	for host := range impl.MaxHosts {
		for sector := range impl.Sectors {
			for _, text := range outTexts(sector) {
				out := impl.Out{Sector: sector, Text: text}
				s := poolWith(journalOf(host, 77, out))
				left := changed(changed(s, out), doneOf(host, 77))
				what := fmt.Sprintf("sector %d is to be %q", sector, text)
				wantRedo(t, what, s, host, left, true)
				again := left
				if !impl.PoolOk(left) {
					again = nil
				}
				wantRedo(t, what+", again", left, host, again, false)
				for other := range impl.MaxHosts {
					if other != host {
						wantRedo(t, what+", of another host", s, other, s, false)
					}
				}
			}
		}
	}
}

func TestRedoOfTheOwnJournal(t *testing.T) {
	for host := range impl.MaxHosts {
		for _, text := range []string{doneText(0), doneText(8), openText(8, outOf(9, 5)), openText(7, outOf(10, 5)), "", "no journal", newText(9, 1)} {
			own := impl.Out{Sector: 3 + host, Text: text}
			for _, outs := range [][]impl.Out{{own}, {outOf(2, 1), own}, {own, outOf(9, 1)}, {outOf(0, 1), own, outOf(13, 1), outOf(33, 1)}} {
				s := poolWith(journalOf(host, 7, outs...))
				want := changed(changed(s, outs...), doneOf(host, 7))
				what := fmt.Sprintf("the own journal is to be %q", text)
				wantRedo(t, what, s, host, want, true)
				wantRedo(t, what+", again", want, host, want, false)
				wantSettle(t, what, s, want)
			}
		}
	}
}

func TestRedoOfAnotherJournal(t *testing.T) {
	done, open, none := doneText(8), openText(8, outOf(9, 5)), "no journal"
	for host := range impl.MaxHosts {
		for other := range impl.MaxHosts {
			if other == host {
				continue
			}
			for _, was := range []impl.Out{doneOf(other, 4), journalOf(other, 4, outOf(10, 5))} {
				for _, text := range []string{done, open, none} {
					out := impl.Out{Sector: 3 + other, Text: text}
					s := poolWith(was, journalOf(host, 7, out, outOf(11, 1)))
					left := changed(s, out, outOf(11, 1), doneOf(host, 7))
					what := fmt.Sprintf("the journal %q of host %d is to be %q", was.Text, other, text)
					wantRedo(t, what, s, host, left, true)
					switch text {
					case done:
						wantRedo(t, what+", then that one's", left, other, left, false)
					case open:
						wantRedo(t, what+", then that one's", left, other, changed(left, outOf(9, 5), doneOf(other, 8)), true)
					default:
						wantRedo(t, what+", then that one's", left, other, nil, false)
					}
				}
			}
		}
	}
}

func TestRedoOfOutsThatLandedAlready(t *testing.T) {
	for host := range impl.MaxHosts {
		outs := []impl.Out{outOf(0, 1), outOf(6+host, 1), outOf(9, 1), outOf(13, 1), outOf(20, 1)}
		s := poolWith(journalOf(host, 7, outs...))
		want := changed(changed(s, outs...), doneOf(host, 7))
		for which := range 1 << len(outs) {
			landed := slices.Clone(s)
			for i, out := range outs {
				if which>>i&1 == 1 {
					landed[out.Sector] = out.Text
				}
			}
			wantRedo(t, "some landed already", landed, host, want, true)
			wantSettle(t, "some landed already", landed, want)
		}
	}
}

func TestSettleOfDoneJournals(t *testing.T) {
	for _, s := range [][]string{freshPool(), donePool()} {
		wantSettle(t, "all done", s, s)
	}
}

func TestSettleOfOpenJournals(t *testing.T) {
	outs := [][]impl.Out{{outOf(6, 1), outOf(9, 1)}, {outOf(7, 2), outOf(10, 2), outOf(13, 2)}, {outOf(33, 3)}}
	for which := range 1 << impl.MaxHosts {
		s := donePool()
		want := donePool()
		for host := range impl.MaxHosts {
			if which>>host&1 == 1 {
				s = changed(s, journalOf(host, 50+host, outs[host]...))
				want = changed(changed(want, outs[host]...), doneOf(host, 50+host))
			}
		}
		what := fmt.Sprintf("open by %03b", which)
		wantSettle(t, what, s, want)
		wantSettle(t, what+", again", want, want)
	}
}

func TestSettleWhereTwoWriteOneSector(t *testing.T) {
	for sector := 6; sector < impl.Sectors; sector++ {
		for _, two := range [][2]int{{0, 1}, {0, 2}, {1, 2}} {
			early, late := two[0], two[1]
			s := poolWith(journalOf(early, 9, outOf(sector, 1)), journalOf(late, 3, outOf(sector, 2)))
			wantSettle(t, "two write one sector", s, changed(s, outOf(sector, 2), doneOf(early, 9), doneOf(late, 3)))
		}
		s := poolWith(journalOf(0, 9, outOf(sector, 3)), journalOf(1, 8, outOf(sector, 2)), journalOf(2, 7, outOf(sector, 1)))
		wantSettle(t, "three write one sector", s, changed(s, outOf(sector, 1), doneOf(0, 9), doneOf(1, 8), doneOf(2, 7)))
	}
}

// spoiling is an Out behind which there is no pool.
func spoiling(sector int) impl.Out {
	return impl.Out{Sector: sector, Text: "it is no sector of any kind"}
}

func TestSettleWhereAnOutSpoilsThePool(t *testing.T) {
	for sector := range impl.Sectors {
		bad := spoiling(sector)
		if sector != 3 {
			s := poolWith(journalOf(0, 1, bad), journalOf(1, 2, outOf(9, 1)), journalOf(2, 3, outOf(10, 1)))
			wantSettle(t, "the first host spoils it", s, changed(s, bad, doneOf(0, 1)))
			wantSettle(t, "the first host has spoilt it", changed(s, bad, doneOf(0, 1)), nil)
		}
		if sector != 4 {
			s := poolWith(journalOf(0, 1, outOf(9, 1)), journalOf(1, 2, bad), journalOf(2, 3, outOf(10, 1)))
			want := changed(s, doneOf(0, 1), outOf(9, 1), bad, doneOf(1, 2))
			wantSettle(t, "the second host spoils it", s, want)
			wantSettle(t, "the second host has spoilt it", want, nil)
		}
		if sector != 5 {
			s := poolWith(journalOf(0, 1, outOf(9, 1)), journalOf(1, 2, outOf(10, 1)), journalOf(2, 3, bad))
			want := changed(s, doneOf(0, 1), outOf(9, 1), doneOf(1, 2), outOf(10, 1), bad, doneOf(2, 3))
			wantSettle(t, "the last host spoils it", s, want)
			wantSettle(t, "the last host has spoilt it", want, nil)
		}
	}
}

func TestSettleDoesNotMendASpoiltPool(t *testing.T) {
	s := poolWith(journalOf(0, 1, spoiling(9)), journalOf(1, 2, outOf(9, 1)))
	wantSettle(t, "the host behind would mend it", s, changed(s, spoiling(9), doneOf(0, 1)))
	s = poolWith(journalOf(1, 2, spoiling(9)), journalOf(2, 3, outOf(9, 1)))
	wantSettle(t, "the last host would mend it", s, changed(s, spoiling(9), doneOf(1, 2)))
}

func TestSettleWhereAnOutWritesTheJournalOfAHostBehind(t *testing.T) {
	s := poolWith(journalOf(0, 1, journalOf(2, 6, outOf(12, 1))), journalOf(1, 2, outOf(9, 1)))
	want := changed(s, doneOf(0, 1), doneOf(1, 2), outOf(9, 1), doneOf(2, 6), outOf(12, 1))
	wantSettle(t, "one that was done is opened", s, want)
	s = poolWith(journalOf(0, 1, doneOf(1, 6)), journalOf(1, 2, outOf(9, 1)))
	wantSettle(t, "one that was open is done", s, changed(s, doneOf(0, 1), doneOf(1, 6)))
	s = poolWith(journalOf(1, 1, journalOf(2, 6, outOf(12, 1))), journalOf(2, 2, outOf(9, 1)))
	wantSettle(t, "one that was open is another one", s, changed(s, doneOf(1, 1), doneOf(2, 6), outOf(12, 1)))
}

func TestSettleWhereAnOutWritesTheJournalOfAHostAhead(t *testing.T) {
	opened := journalOf(0, 6, outOf(12, 1))
	s := poolWith(journalOf(1, 2, opened, outOf(9, 1)))
	once := changed(s, doneOf(1, 2), opened, outOf(9, 1))
	wantSettle(t, "it is opened, and stays so", s, once)
	wantSettle(t, "it is done when settled again", once, changed(once, doneOf(0, 6), outOf(12, 1)))
	s = poolWith(journalOf(0, 4, outOf(10, 1)), journalOf(2, 2, opened, outOf(9, 1)))
	wantSettle(t, "it was done just now", s, changed(s, outOf(10, 1), opened, outOf(9, 1), doneOf(2, 2)))
	s = poolWith(journalOf(1, 4, outOf(10, 1)), journalOf(2, 2, doneOf(1, 9)))
	wantSettle(t, "its mark is another one", s, changed(s, outOf(10, 1), doneOf(1, 9), doneOf(2, 2)))
}

// plainRedo is the chapter's words, on journals that are read beforehand.
func plainRedo(s []string, host int) ([]string, bool) {
	if !impl.PoolOk(s) {
		return nil, false
	}
	if host < 0 || host >= 3 {
		return s, false
	}
	journal, _ := impl.ReadJournal(s[3+host])
	if journal.Done {
		return s, false
	}
	return changed(changed(s, journal.Outs...), doneOf(host, journal.Txn)), true
}

func plainSettle(s []string) []string {
	if !impl.PoolOk(s) {
		return nil
	}
	for host := range 3 {
		if impl.PoolOk(s) {
			s, _ = plainRedo(s, host)
		}
	}
	return s
}

// randomOut writes a right text of the sector's kind, mostly; a Journal it writes may be open again.
func randomOut(r *rand.Rand, sector int, wrongs int) impl.Out {
	if r.Intn(100) < wrongs {
		return impl.Out{Sector: sector, Text: randomText(r, 60)}
	}
	if sector/3 == 1 && r.Intn(2) == 0 {
		inner := 6 + r.Intn(impl.Sectors-6)
		return journalOf(sector-3, 1+r.Intn(impl.MaxTxn), outOf(inner, r.Intn(9)))
	}
	return outOf(sector, r.Intn(9))
}

func randomOuts(r *rand.Rand, lowest int, wrongs int) []impl.Out {
	at := r.Perm(impl.Sectors - lowest)[:1+r.Intn(impl.MaxOuts)]
	slices.Sort(at)
	var outs []impl.Out
	for _, i := range at {
		outs = append(outs, randomOut(r, lowest+i, wrongs))
	}
	return outs
}

func randomJournals(r *rand.Rand, lowest int, wrongs int) []string {
	s := donePool()
	for host := range impl.MaxHosts {
		if r.Intn(3) > 0 {
			s = changed(s, journalOf(host, 1+r.Intn(impl.MaxTxn), randomOuts(r, lowest, wrongs)...))
		}
	}
	return s
}

func TestManyRedosAsSaid(t *testing.T) {
	t.Parallel()
	r := rand.New(rand.NewSource(6))
	spoilt := 0
	for range 6000 {
		s := randomJournals(r, 3*r.Intn(3), r.Intn(12))
		for _, host := range []int{-1, 0, 1, 2, 3} {
			want, wantDone := plainRedo(s, host)
			wantRedo(t, "random", s, host, want, wantDone)
		}
		want := plainSettle(s)
		wantSettle(t, "random", s, want)
		wantSettle(t, "random, again", want, plainSettle(want))
		if !impl.PoolOk(want) {
			spoilt++
		}
		if t.Failed() {
			return
		}
	}
	if spoilt < 300 || spoilt > 5700 {
		t.Errorf("%d pools of 6000 are spoilt", spoilt)
	}
}

func TestSettleOfWhatWasSettled(t *testing.T) {
	t.Parallel()
	r := rand.New(rand.NewSource(66))
	for range 4000 {
		s := randomJournals(r, 6, 0)
		for host := range impl.MaxHosts {
			left, _ := impl.Redo(s, host)
			wantRedo(t, "redone", left, host, left, false)
		}
		left := settleOf(t, "random", s)
		wantPool(t, "settled", left, true)
		wantSettle(t, "settled", left, left)
		for host := range impl.MaxHosts {
			wantRedo(t, "settled", left, host, left, false)
			if journal, ok := impl.ReadJournal(left[3+host]); !ok || !journal.Done {
				t.Errorf("host %d has an open journal when all is settled", host)
			}
		}
		if t.Failed() {
			return
		}
	}
}
