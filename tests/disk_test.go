package tests

import (
	"fmt"
	"math"
	"math/rand"
	"reflect"
	"slices"
	"strconv"
	"strings"
	"testing"

	"loop.example/g00761/impl"
)

// tidyDisk tells lists without members as nil, since both are the same value.
func tidyDisk(d impl.Disk) impl.Disk {
	if len(d.Sectors) == 0 {
		d.Sectors = nil
	}
	if len(d.Epochs) == 0 {
		d.Epochs = nil
	}
	if len(d.Pend) == 0 {
		d.Pend = nil
	}
	return d
}

func sameDisk(a impl.Disk, b impl.Disk) bool {
	return reflect.DeepEqual(tidyDisk(a), tidyDisk(b))
}

func cloneDisk(d impl.Disk) impl.Disk {
	return impl.Disk{Sectors: slices.Clone(d.Sectors), Epochs: slices.Clone(d.Epochs), Pend: slices.Clone(d.Pend)}
}

// diskInShort cuts what would fill the screen.
func diskInShort(d impl.Disk) string {
	s := fmt.Sprintf("%v", d)
	return s[:min(len(s), 600)]
}

func wantDisk(t *testing.T, what string, got impl.Disk, want impl.Disk) {
	t.Helper()
	if !sameDisk(got, want) {
		t.Errorf("%s: the disk is %s, not %s", what, diskInShort(got), diskInShort(want))
	}
}

// roomy is the disk with spare room of three marked members behind each list.
func roomy(d impl.Disk) impl.Disk {
	mark := impl.Write{Host: -7, Epoch: -7, Sector: -7, Text: "spare"}
	return impl.Disk{
		Sectors: append(slices.Clone(d.Sectors), "spare", "spare", "spare")[:len(d.Sectors)],
		Epochs:  append(slices.Clone(d.Epochs), -7, -7, -7)[:len(d.Epochs)],
		Pend:    append(slices.Clone(d.Pend), mark, mark, mark)[:len(d.Pend)],
	}
}

func withRoom(d impl.Disk) impl.Disk {
	n := func(have int, room int) int { return min(have+3, room) }
	return impl.Disk{
		Sectors: d.Sectors[:n(len(d.Sectors), cap(d.Sectors))],
		Epochs:  d.Epochs[:n(len(d.Epochs), cap(d.Epochs))],
		Pend:    d.Pend[:n(len(d.Pend), cap(d.Pend))],
	}
}

func spoilDisk(d impl.Disk) {
	d = impl.Disk{Sectors: d.Sectors[:cap(d.Sectors)], Epochs: d.Epochs[:cap(d.Epochs)], Pend: d.Pend[:cap(d.Pend)]}
	for i := range d.Sectors {
		d.Sectors[i] = "spoiled"
	}
	for i := range d.Epochs {
		d.Epochs[i] = -99
	}
	for i := range d.Pend {
		d.Pend[i] = impl.Write{Host: -99, Text: "spoiled"}
	}
}

// diskCall is one call on a disk; its code is 0 where it was done.
type diskCall struct {
	name string
	call func(d impl.Disk) (impl.Disk, int)
}

func code(d impl.Disk, done bool) (impl.Disk, int) {
	if done {
		return d, 0
	}
	return d, 1
}

func putCall(host int, epoch int, sector int, text string) diskCall {
	return diskCall{"Put", func(d impl.Disk) (impl.Disk, int) { return impl.Put(d, host, epoch, sector, text) }}
}

func flushCall(host int, epoch int) diskCall {
	return diskCall{"Flush", func(d impl.Disk) (impl.Disk, int) { return impl.Flush(d, host, epoch) }}
}

func swapCall(host int, epoch int, sector int, old string, text string) diskCall {
	return diskCall{"Swap", func(d impl.Disk) (impl.Disk, int) { return impl.Swap(d, host, epoch, sector, old, text) }}
}

func landCall(i int) diskCall {
	return diskCall{"Land", func(d impl.Disk) (impl.Disk, int) { return code(impl.Land(d, i)) }}
}

func loseCall(i int) diskCall {
	return diskCall{"Lose", func(d impl.Disk) (impl.Disk, int) { return code(impl.Lose(d, i)) }}
}

func fenceCall(host int) diskCall {
	return diskCall{"Fence", func(d impl.Disk) (impl.Disk, int) { return code(impl.Fence(d, host)) }}
}

// wantApart asks that the call leaves its argument and the room behind it, and that neither's change is seen in the other.
func wantApart(t *testing.T, d impl.Disk, c diskCall) {
	t.Helper()
	given := roomy(d)
	before := cloneDisk(withRoom(given))
	got, _ := c.call(given)
	wantDisk(t, c.name+" changed its argument or the room behind it", withRoom(given), before)
	kept := cloneDisk(got)
	spoilDisk(given)
	wantDisk(t, c.name+" shares what it answers with its argument", got, kept)

	given = roomy(d)
	got, _ = c.call(given)
	spoilDisk(got)
	wantDisk(t, c.name+" shares its argument with what it answers", withRoom(given), before)
}

// call runs a call on a right disk and asks what every call owes: a right disk, and the same one where it refuses.
func call(t *testing.T, d impl.Disk, c diskCall) (impl.Disk, int) {
	t.Helper()
	before := cloneDisk(d)
	got, refused := c.call(d)
	wantDisk(t, c.name+" changed its argument", d, before)
	if !impl.DiskOk(got) {
		t.Errorf("%s of a right disk is not right: %s", c.name, diskInShort(got))
	}
	if refused != 0 {
		wantDisk(t, c.name+" refuses and changes", got, d)
	}
	return got, refused
}

func wantCall(t *testing.T, d impl.Disk, c diskCall, want impl.Disk, wantCode int) impl.Disk {
	t.Helper()
	got, refused := call(t, d, c)
	if refused != wantCode {
		t.Errorf("%s answers %d, not %d", c.name, refused, wantCode)
	}
	wantDisk(t, c.name, got, want)
	wantApart(t, d, c)
	return got
}

func newDisk(t *testing.T, n int) impl.Disk {
	t.Helper()
	d, ok := impl.NewDisk(n)
	if !ok {
		t.Fatalf("NewDisk(%d) is none", n)
	}
	return d
}

// busyDisk has writes of two hosts under way to one sector, and others between them.
func busyDisk() impl.Disk {
	return impl.Disk{
		Sectors: []string{"zero", "", "two", "three"},
		Epochs:  []int{4, 1, impl.MaxEpoch},
		Pend: []impl.Write{
			{Host: 0, Epoch: 4, Sector: 2, Text: "a"},
			{Host: 1, Epoch: 1, Sector: 2, Text: "b"},
			{Host: 0, Epoch: 4, Sector: 1, Text: "c"},
			{Host: 0, Epoch: 4, Sector: 2, Text: "d"},
			{Host: 2, Epoch: impl.MaxEpoch, Sector: 3, Text: ""},
			{Host: 1, Epoch: 1, Sector: 2, Text: "e"},
		},
	}
}

func without(pend []impl.Write, numbers ...int) []impl.Write {
	var out []impl.Write
	for i, w := range pend {
		if !slices.Contains(numbers, i) {
			out = append(out, w)
		}
	}
	return out
}

// someCalls hold each function, done and refused, on the busy disk.
func someCalls() []diskCall {
	long := strings.Repeat("x", impl.MaxSector+1)
	return []diskCall{
		putCall(0, 4, 0, "new"), putCall(0, 5, 0, "new"), putCall(3, 4, 0, "new"), putCall(0, 4, 4, "new"), putCall(0, 4, 0, long),
		flushCall(0, 4), flushCall(1, 1), flushCall(2, impl.MaxEpoch), flushCall(0, 1), flushCall(-1, 4),
		swapCall(0, 4, 0, "zero", "new"), swapCall(0, 4, 0, "", "new"), swapCall(0, 4, 2, "two", "new"), swapCall(0, 1, 0, "zero", "new"), swapCall(0, 4, -1, "zero", "new"),
		landCall(0), landCall(1), landCall(3), landCall(5), landCall(6), landCall(-1),
		loseCall(0), loseCall(3), loseCall(5), loseCall(6), loseCall(-1),
		fenceCall(0), fenceCall(1), fenceCall(2), fenceCall(3), fenceCall(-1),
	}
}

// fullDisk is right, and at every bound at once.
func fullDisk() impl.Disk {
	text := strings.Repeat("t", impl.MaxSector)
	d := impl.Disk{Epochs: []int{1, impl.MaxEpoch, 2}}
	for range impl.MaxSectors {
		d.Sectors = append(d.Sectors, text)
	}
	for i := range impl.MaxPend {
		host := i % impl.MaxHosts
		d.Pend = append(d.Pend, impl.Write{Host: host, Epoch: d.Epochs[host], Sector: impl.MaxSectors - 1 - i, Text: text})
	}
	return d
}

type wrongDisk struct {
	what string
	d    impl.Disk
}

// wrongDisks are right disks that were made wrong in one single way each.
func wrongDisks() []wrongDisk {
	long := strings.Repeat("x", impl.MaxSector+1)
	var out []wrongDisk
	add := func(what string, change func(d *impl.Disk)) {
		for _, from := range []impl.Disk{busyDisk(), fullDisk()} {
			change(&from)
			out = append(out, wrongDisk{what, from})
		}
	}
	add("no sectors, nothing under way", func(d *impl.Disk) { d.Sectors, d.Pend = nil, nil })
	add("no sectors", func(d *impl.Disk) { d.Sectors = nil })
	add("MaxSectors and one more", func(d *impl.Disk) { d.Sectors = make([]string, impl.MaxSectors+1) })
	add("a first sector of one byte more", func(d *impl.Disk) { d.Sectors[0] = long })
	add("a last sector of one byte more", func(d *impl.Disk) { d.Sectors[len(d.Sectors)-1] = long })
	add("no epochs, nothing under way", func(d *impl.Disk) { d.Epochs, d.Pend = nil, nil })
	add("no epochs", func(d *impl.Disk) { d.Epochs = nil })
	add("too few epochs", func(d *impl.Disk) { d.Epochs, d.Pend = d.Epochs[:2], without(d.Pend, 2, 4) })
	add("one epoch", func(d *impl.Disk) { d.Epochs, d.Pend = d.Epochs[:1], d.Pend[:1] })
	add("too many epochs", func(d *impl.Disk) { d.Epochs = append(d.Epochs, 1) })
	for host := range impl.MaxHosts {
		for _, epoch := range []int{0, -1, impl.MaxEpoch + 1, math.MinInt, math.MaxInt} {
			add("an epoch of "+strconv.Itoa(epoch), func(d *impl.Disk) {
				d.Epochs[host] = epoch
				for i := range d.Pend {
					d.Pend[i].Epoch = d.Epochs[d.Pend[i].Host]
				}
			})
		}
	}
	add("MaxPend writes and one more", func(d *impl.Disk) {
		d.Pend = slices.Repeat(d.Pend[:1], impl.MaxPend+1)
	})
	for _, i := range []int{0, 5} {
		for _, host := range []int{-1, impl.MaxHosts, math.MinInt, math.MaxInt} {
			add("a write of a host that is none", func(d *impl.Disk) { d.Pend[i].Host = host })
		}
		for _, by := range []int{-1, 1} {
			add("a write of an epoch that is not the host's", func(d *impl.Disk) { d.Pend[i].Epoch += by })
		}
		for _, past := range []int{0, 1, math.MaxInt - impl.MaxSectors} {
			add("a write to a sector past the end", func(d *impl.Disk) { d.Pend[i].Sector = len(d.Sectors) + past })
		}
		for _, sector := range []int{-1, math.MinInt} {
			add("a write to a sector below 0", func(d *impl.Disk) { d.Pend[i].Sector = sector })
		}
		add("a write of one byte more", func(d *impl.Disk) { d.Pend[i].Text = long })
	}
	return out
}

func TestDiskOkTakesEveryBound(t *testing.T) {
	rights := []impl.Disk{busyDisk(), fullDisk(), newDisk(t, 1), newDisk(t, impl.MaxSectors)}
	for i, d := range rights {
		if !impl.DiskOk(d) {
			t.Errorf("disk %d is told not right", i)
		}
	}
	d := fullDisk()
	given := roomy(d)
	impl.DiskOk(given)
	wantDisk(t, "DiskOk changed its argument", withRoom(given), withRoom(roomy(d)))
}

func TestWrongDisksAreRefused(t *testing.T) {
	calls := someCalls()
	for _, w := range append(wrongDisks(), wrongDisk{"the zero disk", impl.Disk{}}) {
		if impl.DiskOk(w.d) {
			t.Errorf("%s: told right", w.what)
		}
		if s, ok := impl.Peek(w.d, 0, 0); s != "" || ok {
			t.Errorf("%s: Peek is %q %v", w.what, s, ok)
		}
		before := cloneDisk(w.d)
		for _, c := range calls {
			got, refused := c.call(w.d)
			if refused != impl.DkBad || !sameDisk(got, impl.Disk{}) {
				t.Errorf("%s: %s answers %d and %s", w.what, c.name, refused, diskInShort(got))
			}
		}
		wantDisk(t, w.what, w.d, before)
	}
}

func TestNewDisk(t *testing.T) {
	for n := 1; n <= impl.MaxSectors; n++ {
		d, ok := impl.NewDisk(n)
		if !ok || !impl.DiskOk(d) {
			t.Errorf("NewDisk(%d) is %s %v", n, diskInShort(d), ok)
		}
		wantDisk(t, "NewDisk", d, impl.Disk{Sectors: make([]string, n), Epochs: []int{1, 1, 1}})
	}
	for _, n := range []int{-1, 0, impl.MaxSectors + 1, math.MinInt, math.MaxInt} {
		d, ok := impl.NewDisk(n)
		if ok || !sameDisk(d, impl.Disk{}) {
			t.Errorf("NewDisk(%d) is %s %v", n, diskInShort(d), ok)
		}
	}
	a, b := newDisk(t, 3), newDisk(t, 3)
	spoilDisk(a)
	wantDisk(t, "two new disks share", b, impl.Disk{Sectors: make([]string, 3), Epochs: []int{1, 1, 1}})
}

func wantPeek(t *testing.T, d impl.Disk, host int, sector int, want string) {
	t.Helper()
	if got, ok := impl.Peek(d, host, sector); got != want || !ok {
		t.Errorf("Peek of host %d at sector %d is %q %v, not %q", host, sector, got, ok, want)
	}
}

func TestPeekSeesTheHostsLastWrite(t *testing.T) {
	d := roomy(busyDisk())
	sees := [][]string{{"zero", "c", "d", "three"}, {"zero", "", "e", "three"}, {"zero", "", "two", ""}}
	for host, texts := range sees {
		for sector, text := range texts {
			wantPeek(t, d, host, sector, text)
		}
	}
	wantDisk(t, "Peek changed its argument", withRoom(d), withRoom(roomy(busyDisk())))
	for _, none := range []int{-1, 3, 4, math.MinInt, math.MaxInt} {
		if s, ok := impl.Peek(d, none, 0); s != "" || ok {
			t.Errorf("Peek of host %d is %q %v", none, s, ok)
		}
	}
	for _, none := range []int{-1, 4, 5, math.MinInt, math.MaxInt} {
		if s, ok := impl.Peek(d, 0, none); s != "" || ok {
			t.Errorf("Peek at sector %d is %q %v", none, s, ok)
		}
	}
}

func TestTwoHostsWriteOneSector(t *testing.T) {
	for _, first := range []int{0, 1} {
		d := newDisk(t, 2)
		second := 1 - first
		d, _ = call(t, d, putCall(first, 1, 1, "first"))
		d, _ = call(t, d, putCall(second, 1, 1, "second"))
		wantPeek(t, d, first, 1, "first")
		wantPeek(t, d, second, 1, "second")
		wantPeek(t, d, 2, 1, "")

		early, _ := call(t, d, landCall(0))
		wantPeek(t, early, first, 1, "first")
		wantPeek(t, early, second, 1, "second")
		wantPeek(t, early, 2, 1, "first")
		both, _ := call(t, early, landCall(0))
		late, refused := call(t, d, landCall(1))
		if refused != 0 {
			t.Error("a write behind another host's one does not land")
		}
		wantPeek(t, late, first, 1, "first")
		wantPeek(t, late, second, 1, "second")
		wantPeek(t, late, 2, 1, "second")
		turned, _ := call(t, late, landCall(0))
		for host := range impl.MaxHosts {
			wantPeek(t, both, host, 1, "second")
			wantPeek(t, turned, host, 1, "first")
		}
		flushed, _ := call(t, d, flushCall(second, 1))
		wantPeek(t, flushed, first, 1, "first")
		wantPeek(t, flushed, 2, 1, "second")
	}
}

func TestPutStandsAtTheEnd(t *testing.T) {
	d := busyDisk()
	for host, epoch := range d.Epochs {
		for sector := range d.Sectors {
			for _, text := range []string{"", "new", "\x00\xff", strings.Repeat("n", impl.MaxSector)} {
				want := cloneDisk(d)
				want.Pend = append(want.Pend, impl.Write{Host: host, Epoch: epoch, Sector: sector, Text: text})
				got := wantCall(t, d, putCall(host, epoch, sector, text), want, impl.DkOk)
				wantPeek(t, got, host, sector, text)
			}
		}
	}
}

func TestPutFillsUp(t *testing.T) {
	d := newDisk(t, 1)
	for i := range impl.MaxPend {
		got, refused := call(t, d, putCall(i%3, 1, 0, strconv.Itoa(i)))
		if refused != impl.DkOk || len(got.Pend) != i+1 {
			t.Fatalf("write %d: %d, %d under way", i, refused, len(got.Pend))
		}
		d = got
	}
	for host := range impl.MaxHosts {
		wantCall(t, d, putCall(host, 1, 0, "more"), d, impl.DkFull)
	}
	less, _ := call(t, d, loseCall(0))
	if _, refused := call(t, less, putCall(0, 1, 0, "more")); refused != impl.DkOk {
		t.Error("no room where a write was lost")
	}
}

func TestReasonsCountInOrder(t *testing.T) {
	full := fullDisk()
	text := full.Sectors[0]
	long := text + "x"
	none := []int{-1, impl.MaxHosts, math.MinInt, math.MaxInt}
	for _, host := range none {
		wantCall(t, full, putCall(host, 1, 0, "x"), full, impl.DkBad)
		wantCall(t, full, putCall(host, 9, -1, long), full, impl.DkBad)
		wantCall(t, full, flushCall(host, 1), full, impl.DkBad)
		wantCall(t, full, flushCall(host, 9), full, impl.DkBad)
		wantCall(t, full, swapCall(host, 1, 0, text, "x"), full, impl.DkBad)
		wantCall(t, full, swapCall(host, 9, 0, "y", "x"), full, impl.DkBad)
	}
	for _, sector := range []int{-1, impl.MaxSectors, math.MinInt, math.MaxInt} {
		wantCall(t, full, putCall(0, 1, sector, "x"), full, impl.DkBad)
		wantCall(t, full, putCall(0, 2, sector, "x"), full, impl.DkBad)
		wantCall(t, full, swapCall(0, 1, sector, text, "x"), full, impl.DkBad)
		wantCall(t, full, swapCall(0, 2, sector, "y", "x"), full, impl.DkBad)
	}
	wantCall(t, full, putCall(0, 1, 0, long), full, impl.DkBad)
	wantCall(t, full, putCall(0, 2, 0, long), full, impl.DkBad)
	wantCall(t, full, swapCall(0, 1, 1, text, long), full, impl.DkBad)
	wantCall(t, full, swapCall(0, 2, 1, text, long), full, impl.DkBad)
	wantCall(t, full, swapCall(0, 1, 1, long, text), full, impl.DkBad)
	wantCall(t, full, swapCall(0, 2, 1, long, text), full, impl.DkBad)
	for _, epoch := range []int{0, 2, -1, impl.MaxEpoch, math.MinInt, math.MaxInt} {
		wantCall(t, full, putCall(0, epoch, 0, "x"), full, impl.DkFenced)
		wantCall(t, full, flushCall(0, epoch), full, impl.DkFenced)
		wantCall(t, full, swapCall(0, epoch, 0, "y", "x"), full, impl.DkFenced)
		wantCall(t, full, swapCall(0, epoch, 0, text, "x"), full, impl.DkFenced)
	}
	wantCall(t, full, putCall(0, 1, 0, "x"), full, impl.DkFull)
}

func TestFlushLandsTheHostsWritesAlone(t *testing.T) {
	d := busyDisk()
	want := cloneDisk(d)
	want.Sectors[1], want.Sectors[2], want.Pend = "c", "d", without(d.Pend, 0, 2, 3)
	wantCall(t, d, flushCall(0, 4), want, impl.DkOk)
	want = cloneDisk(d)
	want.Sectors[2], want.Pend = "e", without(d.Pend, 1, 5)
	wantCall(t, d, flushCall(1, 1), want, impl.DkOk)
	want = cloneDisk(d)
	want.Sectors[3], want.Pend = "", without(d.Pend, 4)
	flushed := wantCall(t, d, flushCall(2, impl.MaxEpoch), want, impl.DkOk)
	wantCall(t, flushed, flushCall(2, impl.MaxEpoch), flushed, impl.DkOk)
	if flushed, refused := call(t, fullDisk(), flushCall(2, 2)); refused != impl.DkOk || len(flushed.Pend) != impl.MaxPend-13 {
		t.Error("flush of a full disk", refused, len(flushed.Pend))
	}
}

// allLandings lands the host's writes in each order that there is, and hands on what each of them comes to.
func allLandings(t *testing.T, d impl.Disk, host int, end func(d impl.Disk)) {
	t.Helper()
	left := false
	for i, w := range d.Pend {
		if w.Host != host {
			continue
		}
		left = true
		if got, refused := call(t, d, landCall(i)); refused == 0 {
			allLandings(t, got, host, end)
		}
	}
	if !left {
		end(d)
	}
}

func TestEveryOrderOfLandingsIsAFlush(t *testing.T) {
	d := newDisk(t, 3)
	for i, w := range [][2]int{{0, 0}, {1, 0}, {0, 1}, {0, 0}, {1, 1}, {0, 2}, {1, 2}, {0, 1}, {0, 0}} {
		d, _ = call(t, d, putCall(w[0], 1, w[1], strconv.Itoa(i)))
	}
	for host, orders := range []int{60, 6, 1} {
		flushed, refused := call(t, d, flushCall(host, 1))
		if refused != impl.DkOk {
			t.Fatal("flush", refused)
		}
		seen := 0
		allLandings(t, d, host, func(end impl.Disk) {
			seen++
			wantDisk(t, "landed one by one", end, flushed)
		})
		if seen != orders {
			t.Errorf("host %d: %d orders, not %d", host, seen, orders)
		}
	}
}

func TestLand(t *testing.T) {
	d := busyDisk()
	for i, w := range d.Pend {
		want := cloneDisk(d)
		if i == 3 || i == 5 {
			wantCall(t, d, landCall(i), want, 1)
			continue
		}
		want.Sectors[w.Sector], want.Pend = w.Text, without(d.Pend, i)
		wantCall(t, d, landCall(i), want, 0)
	}
	for _, i := range []int{-1, 6, 7, math.MinInt, math.MaxInt} {
		wantCall(t, d, landCall(i), d, 1)
	}
	none := newDisk(t, 2)
	wantCall(t, none, landCall(0), none, 1)
	behind, _ := call(t, d, loseCall(0))
	if _, refused := call(t, behind, landCall(2)); refused != 0 {
		t.Error("a write does not land where the one ahead of it was lost")
	}
}

func TestLose(t *testing.T) {
	d := busyDisk()
	for i := range d.Pend {
		want := cloneDisk(d)
		want.Pend = without(d.Pend, i)
		wantCall(t, d, loseCall(i), want, 0)
	}
	for _, i := range []int{-1, 6, 7, math.MinInt, math.MaxInt} {
		wantCall(t, d, loseCall(i), d, 1)
	}
	none := newDisk(t, 2)
	wantCall(t, none, loseCall(0), none, 1)
}

func TestSwap(t *testing.T) {
	d := busyDisk()
	long := strings.Repeat("s", impl.MaxSector)
	for _, text := range []string{"", "zero", "new", long} {
		want := cloneDisk(d)
		want.Sectors[0] = text
		wantCall(t, d, swapCall(1, 1, 0, "zero", text), want, impl.DkOk)
	}
	for _, old := range []string{"", "zer", "zero ", "Zero", "zero\x00", long} {
		wantCall(t, d, swapCall(1, 1, 0, old, "new"), d, impl.DkDiff)
	}
	for _, old := range []string{"two", "d", "a", "b", "e", ""} {
		wantCall(t, d, swapCall(0, 4, 2, old, "new"), d, impl.DkDiff)
		wantCall(t, d, swapCall(1, 1, 2, old, "new"), d, impl.DkDiff)
	}
	want := cloneDisk(d)
	want.Sectors[2] = "new"
	swapped := wantCall(t, d, swapCall(2, impl.MaxEpoch, 2, "two", "new"), want, impl.DkOk)
	wantPeek(t, swapped, 0, 2, "d")
	full := fullDisk()
	want = cloneDisk(full)
	want.Sectors[0] = ""
	wantCall(t, full, swapCall(2, 2, 0, full.Sectors[0], ""), want, impl.DkOk)
}

func TestOfTwoSwapsOneIsDone(t *testing.T) {
	for first := range impl.MaxHosts {
		for second := range impl.MaxHosts {
			d, one := call(t, newDisk(t, 2), swapCall(first, 1, 1, "", "taken"+strconv.Itoa(first)))
			got, two := call(t, d, swapCall(second, 1, 1, "", "taken"+strconv.Itoa(second)))
			if one != impl.DkOk || two != impl.DkDiff || got.Sectors[1] != "taken"+strconv.Itoa(first) {
				t.Errorf("hosts %d and %d: %d and %d, %q", first, second, one, two, got.Sectors[1])
			}
		}
	}
}

func TestFence(t *testing.T) {
	d := busyDisk()
	want := cloneDisk(d)
	want.Epochs[0], want.Pend = 5, without(d.Pend, 0, 2, 3)
	wantCall(t, d, fenceCall(0), want, 0)
	want = cloneDisk(d)
	want.Epochs[1], want.Pend = 2, without(d.Pend, 1, 5)
	wantCall(t, d, fenceCall(1), want, 0)
	for _, host := range []int{2, -1, 3, math.MinInt, math.MaxInt} {
		wantCall(t, d, fenceCall(host), d, 1)
	}
	near := cloneDisk(d)
	near.Epochs[2], near.Pend = impl.MaxEpoch-1, without(d.Pend, 4)
	want = cloneDisk(near)
	want.Epochs[2] = impl.MaxEpoch
	wantCall(t, near, fenceCall(2), want, 0)
}

func TestBehindAFenceTheOldEpochDoesNothing(t *testing.T) {
	d := busyDisk()
	for host := range 2 {
		old := d.Epochs[host]
		fenced, _ := call(t, d, fenceCall(host))
		for sector, text := range fenced.Sectors {
			wantPeek(t, fenced, host, sector, text)
			wantCall(t, fenced, putCall(host, old, sector, "x"), fenced, impl.DkFenced)
			wantCall(t, fenced, swapCall(host, old, sector, text, "x"), fenced, impl.DkFenced)
			wantCall(t, fenced, swapCall(host, old, sector, "y", "x"), fenced, impl.DkFenced)
			if _, refused := call(t, fenced, putCall(host, old+1, sector, "x")); refused != impl.DkOk {
				t.Error("the new epoch is refused", refused)
			}
		}
		wantCall(t, fenced, flushCall(host, old), fenced, impl.DkFenced)
		for _, w := range fenced.Pend {
			if w.Host == host {
				t.Error("a write of a fenced host is under way", w)
			}
		}
	}
}

func TestNoCallSharesMemory(t *testing.T) {
	for _, c := range someCalls() {
		for _, d := range []impl.Disk{busyDisk(), fullDisk(), newDisk(t, 4)} {
			wantApart(t, d, c)
		}
	}
}

// plainDisk does what the chapter says by one list and no queues.
type plainDisk struct {
	d impl.Disk
}

func (p *plainDisk) ahead(i int) bool {
	for _, w := range p.d.Pend[:i] {
		if w.Host == p.d.Pend[i].Host && w.Sector == p.d.Pend[i].Sector {
			return true
		}
	}
	return false
}

func (p *plainDisk) dropHost(host int) {
	p.d.Pend = slices.DeleteFunc(slices.Clone(p.d.Pend), func(w impl.Write) bool { return w.Host == host })
}

func (p *plainDisk) step(kind int, host int, epoch int, sector int, i int, text string, old string) (diskCall, int) {
	fenced := epoch != p.d.Epochs[host]
	switch kind {
	case 0, 1, 2:
		c := putCall(host, epoch, sector, text)
		if fenced {
			return c, impl.DkFenced
		}
		if len(p.d.Pend) == impl.MaxPend {
			return c, impl.DkFull
		}
		p.d.Pend = append(slices.Clone(p.d.Pend), impl.Write{Host: host, Epoch: epoch, Sector: sector, Text: text})
		return c, 0
	case 3:
		c := flushCall(host, epoch)
		if fenced {
			return c, impl.DkFenced
		}
		p.d.Sectors = slices.Clone(p.d.Sectors)
		for _, w := range p.d.Pend {
			if w.Host == host {
				p.d.Sectors[w.Sector] = w.Text
			}
		}
		p.dropHost(host)
		return c, 0
	case 4:
		c := swapCall(host, epoch, sector, old, text)
		busy := slices.ContainsFunc(p.d.Pend, func(w impl.Write) bool { return w.Host == host && w.Sector == sector })
		if fenced {
			return c, impl.DkFenced
		}
		if busy || p.d.Sectors[sector] != old {
			return c, impl.DkDiff
		}
		p.d.Sectors = slices.Clone(p.d.Sectors)
		p.d.Sectors[sector] = text
		return c, 0
	case 5, 6:
		if i >= len(p.d.Pend) || kind == 5 && p.ahead(i) {
			return []diskCall{landCall(i), loseCall(i)}[kind-5], 1
		}
		if kind == 5 {
			p.d.Sectors = slices.Clone(p.d.Sectors)
			p.d.Sectors[p.d.Pend[i].Sector] = p.d.Pend[i].Text
		}
		p.d.Pend = without(p.d.Pend, i)
		return []diskCall{landCall(i), loseCall(i)}[kind-5], 0
	}
	if p.d.Epochs[host] == impl.MaxEpoch {
		return fenceCall(host), 1
	}
	p.d.Epochs = slices.Clone(p.d.Epochs)
	p.d.Epochs[host]++
	p.dropHost(host)
	return fenceCall(host), 0
}

func TestManyCallsAsSaid(t *testing.T) {
	r := rand.New(rand.NewSource(3))
	for round := range 60 {
		d := newDisk(t, 1+r.Intn(4))
		p := &plainDisk{cloneDisk(d)}
		for at := range 200 {
			host := r.Intn(impl.MaxHosts)
			epoch := d.Epochs[host] - r.Intn(8)/7
			sector := r.Intn(len(d.Sectors))
			old := d.Sectors[r.Intn(len(d.Sectors))]
			kind := min(r.Intn(40), 7)
			if kind == 7 {
				kind = []int{0, 1, 2, 3, 4, 5, 5, 6, 7}[r.Intn(9)]
			}
			if round%2 == 0 && kind == 3 {
				kind = 0
			}
			c, wantCode := p.step(kind, host, epoch, sector, r.Intn(len(d.Pend)+2), strconv.Itoa(at%5), old)
			got, refused := call(t, d, c)
			if refused != wantCode {
				t.Fatalf("%s answers %d, not %d", c.name, refused, wantCode)
			}
			if !sameDisk(got, p.d) {
				t.Fatalf("%s: the disk is %s, not %s", c.name, diskInShort(got), diskInShort(p.d))
			}
			d = got
		}
	}
}
