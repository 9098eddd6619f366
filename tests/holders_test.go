package tests

import (
	"fmt"
	"math"
	"math/rand"
	"reflect"
	"testing"

	"loop.example/g00761/impl"
)

// worldStays asks that what is asked changes nothing of the world, nor of the room behind its lists.
func worldStays(t *testing.T, what string, w impl.World, ask func(w impl.World)) {
	t.Helper()
	room := roomyWorld(w)
	before := worldRoom(room)
	ask(room)
	if !reflect.DeepEqual(worldRoom(room), before) {
		t.Errorf("%s: the world was changed, or the room behind it", what)
	}
}

func wantHolders(t *testing.T, what string, w impl.World, kind int, i int, want int) {
	t.Helper()
	worldStays(t, what, w, func(w impl.World) {
		if got := impl.Holders(w, kind, i); got != want {
			t.Errorf("%s: Holders of kind %d, number %d, is %d, not %d", what, kind, i, got, want)
		}
	})
}

// leased are all that has a Lease: kind and number.
func leased() [][2]int {
	return [][2]int{{3, 0}, {3, 1}, {3, 2}, {3, 3}, {4, 0}, {4, 1}, {4, 2}}
}

// withLease is the world with this Lease of that, and of nothing else.
func withLease(w impl.World, of [2]int, lease impl.Lease) impl.World {
	w = cloneWorld(w)
	for _, each := range leased() {
		given := planNo
		if each == of {
			given = lease
		}
		out := leaseOut(impl.SectorOf(each[0], each[1]), given)
		w.Disk.Sectors[out.Sector] = out.Text
	}
	return w
}

// wantOneHolder asks of everything that has a Lease: that one has so many, and all others none.
func wantOneHolder(t *testing.T, what string, w impl.World, of [2]int, want int) {
	t.Helper()
	for _, each := range leased() {
		if each == of {
			wantHolders(t, what, w, each[0], each[1], want)
		} else {
			wantHolders(t, what+", of another one", w, each[0], each[1], 0)
		}
	}
}

// upWorld has all hosts up, with the epoch that they have on the disk.
func upWorld() impl.World {
	w := downWorld()
	for i := range w.Hosts {
		w.Hosts[i] = impl.Host{Id: i, Epoch: w.Disk.Epochs[i], Up: true, Ready: true}
	}
	return w
}

func TestHoldersOfANewWorld(t *testing.T) {
	for _, of := range leased() {
		wantOneHolder(t, "a new world", impl.NewWorld(), of, 0)
		wantOneHolder(t, "all are up, and nobody has it", withLease(upWorld(), of, planNo), of, 0)
	}
}

func TestHoldersByEpochs(t *testing.T) {
	for _, of := range leased() {
		for host := range impl.MaxHosts {
			up := upWorld()
			epoch := up.Disk.Epochs[host]
			mine := impl.Lease{Host: host, Epoch: epoch}
			wantOneHolder(t, "up with its epoch on the disk", withLease(up, of, mine), of, 1)
			for _, other := range []int{1, epoch - 1, epoch + 1, 99, impl.MaxEpoch} {
				what := fmt.Sprint("a Lease of host ", host, " under epoch ", other)
				if other != epoch {
					wantOneHolder(t, what, withLease(up, of, impl.Lease{Host: host, Epoch: other}), of, 0)
				}
			}
			elder := cloneWorld(up)
			elder.Disk.Epochs[host]++
			wantOneHolder(t, "fenced", withLease(elder, of, mine), of, 0)
			wantOneHolder(t, "fenced, and the Lease is of no host", withLease(elder, of, impl.Lease{Host: host, Epoch: epoch + 1}), of, 0)
			down := cloneWorld(up)
			down.Hosts[host] = downHost(host)
			wantOneHolder(t, "not up", withLease(down, of, mine), of, 0)
		}
	}
}

// Ready and Busy are nothing to it.
func TestHoldersOfHostsThatAreBusy(t *testing.T) {
	for _, of := range [][2]int{{3, 2}, {4, 1}} {
		for _, right := range rightHosts() {
			h := right.host
			w := downWorld()
			w.Disk.Epochs[h.Id] = max(1, h.Epoch)
			w.Hosts[h.Id] = h
			want := 0
			if h.Up {
				want = 1
			}
			wantOneHolder(t, right.what, withLease(w, of, impl.Lease{Host: h.Id, Epoch: max(1, h.Epoch)}), of, want)
		}
	}
}

// Each host holds its own; of one that was fenced nothing is held.
func TestHoldersOfMoreThanOne(t *testing.T) {
	w := upWorld()
	w.Disk.Epochs[1]++
	for i, of := range leased() {
		host := i % impl.MaxHosts
		out := leaseOut(impl.SectorOf(of[0], of[1]), impl.Lease{Host: host, Epoch: w.Hosts[host].Epoch})
		w.Disk.Sectors[out.Sector] = out.Text
	}
	for i, of := range leased() {
		want := 1
		if i%impl.MaxHosts == 1 {
			want = 0
		}
		wantHolders(t, "each its own", w, of[0], of[1], want)
	}
}

func TestHoldersOfWhatIsNot(t *testing.T) {
	w := upWorld()
	for _, of := range leased() {
		out := leaseOut(impl.SectorOf(of[0], of[1]), impl.Lease{Host: 2, Epoch: 7})
		w.Disk.Sectors[out.Sector] = out.Text
	}
	for sector := range 3 {
		w.Disk.Sectors[sector] = recOut(sector, impl.Lease{Host: 2, Epoch: 7}).Text
	}
	for kind := -2; kind <= 8; kind++ {
		for i := -3; i <= 20; i++ {
			want := 0
			if kind == 3 && i >= 0 && i < 4 || kind == 4 && i >= 0 && i < 3 {
				want = 1
			}
			wantHolders(t, "each number", w, kind, i, want)
		}
	}
	for _, n := range []int{math.MinInt, math.MaxInt, 99, -99, 1 << 32} {
		for _, few := range []int{0, 3, 4, n} {
			wantHolders(t, "far out", w, n, few, 0)
			wantHolders(t, "far out", w, few, n, 0)
		}
	}
}

func TestHoldersWhereTheWorldIsNotRight(t *testing.T) {
	for _, wrong := range wrongWorlds() {
		for _, of := range leased() {
			if got := impl.Holders(wrong.world, of[0], of[1]); got != 0 {
				t.Errorf("%s: Holders is %d", wrong.what, got)
			}
		}
		wantHolders(t, wrong.what, wrong.world, 3, 0, 0)
	}
	for what, wrong := range wrongOf(upWorld()) {
		for _, of := range leased() {
			wantHolders(t, what, withLease(wrong, of, impl.Lease{Host: 2, Epoch: 7}), of[0], of[1], 0)
		}
	}
}

// wrongOf are worlds of which one thing is wrong, that has nothing to do with leases.
func wrongOf(w impl.World) map[string]impl.World {
	out := map[string]impl.World{}
	add := func(what string, change func(w *impl.World)) {
		next := cloneWorld(w)
		change(&next)
		out[what] = next
	}
	add("a Seen below 0", func(w *impl.World) { w.Seen[1] = -1 })
	add("a Seen too many", func(w *impl.World) { w.Seen = append(w.Seen, 0) })
	add("a host too many", func(w *impl.World) { w.Hosts = append(w.Hosts, downHost(2)) })
	add("a host with a call that is none", func(w *impl.World) { w.Hosts[0] = busyHost(impl.Op{Kind: 99}, 0) })
	add("a write under way that is fenced", func(w *impl.World) { w.Disk.Pend = append(w.Disk.Pend, impl.Write{Host: 0, Epoch: 999, Sector: 20}) })
	add("a block too long", func(w *impl.World) { w.Disk.Sectors[33] = fullText() + "b" })
	add("a Reply too late", func(w *impl.World) {
		w.Replies = append(w.Replies, impl.Reply{Op: impl.Op{Kind: impl.OpDrain}, At: len(w.Log) + 1})
	})
	add("a Reply of no host", func(w *impl.World) {
		w.Replies = append(w.Replies, impl.Reply{Host: 3, Op: impl.Op{Kind: impl.OpDrain}})
	})
	return out
}

// What is under way, or in a journal that is open, is not in the Sectors.
func TestHoldersOfWhatHasNotLanded(t *testing.T) {
	for _, of := range leased() {
		mine := impl.Lease{Host: 2, Epoch: 7}
		out := leaseOut(impl.SectorOf(of[0], of[1]), mine)
		pend := withLease(upWorld(), of, planNo)
		pend.Disk = underWay(pend.Disk, 2, out)
		wantOneHolder(t, "it is under way", pend, of, 0)
		pend.Disk = landed(pend.Disk, out)
		wantOneHolder(t, "it has landed", pend, of, 1)
		given := withLease(upWorld(), of, mine)
		given.Disk = underWay(given.Disk, 2, leaseOut(out.Sector, planNo))
		wantOneHolder(t, "it is given back by what is under way", given, of, 1)
		open := withLease(upWorld(), of, planNo)
		open.Disk = landed(open.Disk, journalOf(2, 9, out))
		wantOneHolder(t, "it is in a journal", open, of, 0)
	}
}

func plainHolders(w impl.World, kind int, i int) int {
	if !plainWorldOk(w) || i < 0 || kind != 3 && kind != 4 || kind == 3 && i > 3 || kind == 4 && i > 2 {
		return 0
	}
	vol, _ := impl.ReadVol(w.Disk.Sectors[9+4*(kind-3)+i])
	group, _ := impl.ReadGroup(w.Disk.Sectors[9+4*(kind-3)+i])
	n := 0
	for _, h := range w.Hosts {
		mine := impl.Lease{Host: h.Id, Epoch: h.Epoch}
		if h.Up && h.Epoch == w.Disk.Epochs[h.Id] && (kind == 3 && vol.Lease == mine || kind == 4 && group.Lease == mine) {
			n++
		}
	}
	return n
}

func TestManyHoldersAsSaid(t *testing.T) {
	t.Parallel()
	r := rand.New(rand.NewSource(1003))
	met := map[int]int{}
	for range 1200 {
		w := randomWorld(r)
		for range 4 {
			kind, i := 3+r.Intn(2), r.Intn(5)-1
			if r.Intn(20) == 0 {
				kind = r.Intn(8) - 1
			}
			want := plainHolders(w, kind, i)
			met[want]++
			wantHolders(t, "random", w, kind, i, want)
		}
		if t.Failed() {
			return
		}
	}
	if met[0] < 300 || met[1] < 300 || len(met) != 2 {
		t.Errorf("so many have so many holders: %v", met)
	}
}
