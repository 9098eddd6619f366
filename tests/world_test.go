package tests

import (
	"fmt"
	"math"
	"reflect"
	"slices"
	"strings"
	"testing"

	"loop.example/g00761/impl"
)

func sameWorld(a impl.World, b impl.World) bool {
	return sameDisk(a.Disk, b.Disk) && slices.EqualFunc(a.Hosts, b.Hosts, sameHost) &&
		slices.Equal(a.Log, b.Log) && slices.Equal(a.Seen, b.Seen) && slices.Equal(a.Replies, b.Replies)
}

func cloneWorld(w impl.World) impl.World {
	out := impl.World{Disk: cloneDisk(w.Disk), Log: slices.Clone(w.Log), Seen: slices.Clone(w.Seen), Replies: slices.Clone(w.Replies)}
	for _, h := range w.Hosts {
		out.Hosts = append(out.Hosts, cloneHost(h))
	}
	return out
}

// wantWorld tells just the parts that differ.
func wantWorld(t *testing.T, what string, got impl.World, want impl.World) {
	t.Helper()
	if sameWorld(got, want) {
		return
	}
	wantDisk(t, what, got.Disk, want.Disk)
	wantSectors(t, what, got.Disk.Sectors, want.Disk.Sectors)
	if !slices.EqualFunc(got.Hosts, want.Hosts, sameHost) {
		t.Errorf("%s: the hosts are %+v, not %+v", what, got.Hosts, want.Hosts)
	}
	if !slices.Equal(got.Log, want.Log) {
		t.Errorf("%s: there are %d Log, not %d: %+v, not %+v", what, len(got.Log), len(want.Log), tail(got.Log), tail(want.Log))
	}
	if !slices.Equal(got.Seen, want.Seen) {
		t.Errorf("%s: Seen is %v, not %v", what, got.Seen, want.Seen)
	}
	if !slices.Equal(got.Replies, want.Replies) {
		t.Errorf("%s: there are %d Replies, not %d: %+v, not %+v", what, len(got.Replies), len(want.Replies), tail(got.Replies), tail(want.Replies))
	}
}

func tail[T any](list []T) []T { return list[max(0, len(list)-3):] }

func roomyList[T any](list []T, mark T) []T {
	return append(slices.Clone(list), mark, mark, mark)[:len(list)]
}

// roomyWorld has marked spare room behind each list, those inside its hosts included.
func roomyWorld(w impl.World) impl.World {
	out := impl.World{
		Disk:    roomy(w.Disk),
		Hosts:   roomyList(w.Hosts, impl.Host{Id: -7}),
		Log:     roomyList(w.Log, impl.Event{Host: -7}),
		Seen:    roomyList(w.Seen, -7),
		Replies: roomyList(w.Replies, impl.Reply{Host: -7}),
	}
	for i, h := range out.Hosts {
		out.Hosts[i] = roomyHost(h)
	}
	return out
}

func allOf[T any](list []T) []T { return slices.Clone(list[:cap(list)]) }

// worldRoom is a copy of a world in which what stands in the room behind each list counts too.
func worldRoom(w impl.World) impl.World {
	out := impl.World{
		Disk:    impl.Disk{Sectors: allOf(w.Disk.Sectors), Epochs: allOf(w.Disk.Epochs), Pend: allOf(w.Disk.Pend)},
		Hosts:   allOf(w.Hosts),
		Log:     allOf(w.Log),
		Seen:    allOf(w.Seen),
		Replies: allOf(w.Replies),
	}
	for i := range out.Hosts {
		out.Hosts[i].Plan.Outs = allOf(out.Hosts[i].Plan.Outs)
	}
	return out
}

func spoilWorld(w impl.World) {
	spoilDisk(w.Disk)
	for _, h := range w.Hosts {
		spoilHost(h)
	}
	fill(w.Hosts, impl.Host{Id: -99})
	fill(w.Log, impl.Event{Host: -99})
	fill(w.Seen, -99)
	fill(w.Replies, impl.Reply{Host: -99})
}

// wantOwnWorld asks that no two lists of one world share memory, and leaves it spoiled.
func wantOwnWorld(t *testing.T, what string, w impl.World) {
	t.Helper()
	epochs := slices.Clone(w.Disk.Epochs)
	fill(w.Seen, -99)
	if !slices.Equal(w.Disk.Epochs, epochs) {
		t.Errorf("%s: Seen and the epochs of the answer share memory", what)
	}
	for i, h := range w.Hosts {
		spoilHost(h)
		for j, other := range w.Hosts {
			if i < j && slices.ContainsFunc(other.Plan.Outs, func(o impl.Out) bool { return o.Sector == -99 }) {
				t.Errorf("%s: hosts %d and %d of the answer share memory", what, i, j)
			}
		}
	}
	spoilWorld(w)
}

// worldApart asks twice, that what is handed in and the room behind it stay, and that nothing is shared.
// What is told besides the world must be the same.
func worldApart(t *testing.T, what string, w impl.World, ask func(w impl.World) (impl.World, string)) impl.World {
	t.Helper()
	room := roomyWorld(w)
	before := worldRoom(room)
	stays := func(why string) {
		t.Helper()
		if !reflect.DeepEqual(worldRoom(room), before) {
			t.Errorf("%s: the world, or the room behind it: %s", what, why)
		}
	}
	first, told := ask(room)
	second, again := ask(room)
	stays("it was changed")
	if !sameWorld(first, second) || told != again {
		t.Errorf("%s: two answers differ: %s and %s", what, told, again)
	}
	kept := cloneWorld(first)
	wantOwnWorld(t, what, second)
	stays("it shares memory with an answer")
	spoilWorld(room)
	if !sameWorld(first, kept) {
		t.Errorf("%s: an answer shares memory with another one, or with what was handed in", what)
	}
	return kept
}

// eventOf is one of the calls that a Log may have.
func eventOf(n int) impl.Event {
	ops := []impl.Op{{Kind: impl.OpDrain}, {Kind: impl.OpCreate, Vol: 3}, writeOp(), {Kind: impl.OpSnap, To: 2}}
	return impl.Event{Host: n % impl.MaxHosts, Txn: 1 + n, Op: ops[n%len(ops)]}
}

// replyOf is one of the replies that a world with at least that many Log may have.
func replyOf(n int, at int) impl.Reply {
	ops := []impl.Op{{Kind: impl.OpRecover, Vol: 2}, {Kind: impl.OpHold, Vol: 3}, {Kind: impl.OpRead, Vol: 1, At: 3}, writeOp(), {Kind: impl.OpGive}}
	return impl.Reply{Host: n % impl.MaxHosts, Op: ops[n%len(ops)], Code: n % (impl.PlFull + 1), Data: strings.Repeat("d", n%5), At: at}
}

// downWorld has no host up, and little besides; what is changed in it makes nothing else wrong.
func downWorld() impl.World {
	return impl.World{
		Disk:    stepDisk(),
		Hosts:   []impl.Host{downHost(0), downHost(1), downHost(2)},
		Log:     []impl.Event{eventOf(0), eventOf(1), eventOf(2)},
		Seen:    []int{1, 2, 3},
		Replies: []impl.Reply{replyOf(0, 0), replyOf(1, 3), replyOf(2, 1)},
	}
}

// busyWorld has writes under way of hosts that are up, of one that is down and of one that is fenced,
// and a Journal of host 2 that nobody has looked at.
func busyWorld() impl.World {
	w := downWorld()
	w.Disk = stepWith(journalOf(2, 50, outOf(9, 1)))
	w.Disk = underWay(w.Disk, 0, blockOut(0, "zero"), blockOut(1, "one"), blockOut(0, "nought"))
	w.Disk = underWay(w.Disk, 1, blockOut(0, "host one"), journalOf(1, 43, outOf(9, 2)))
	w.Disk = underWay(w.Disk, 2, blockOut(2, "two"))
	w.Hosts = []impl.Host{downHost(0), midHost(5), {Id: 2, Epoch: 6, Up: true, Ready: true, Busy: true, Op: impl.Op{Kind: impl.OpDrain}}}
	w.Seen = []int{7, 42, 49}
	return w
}

// fullWorld is right, and at every bound at once.
func fullWorld() impl.World {
	w := impl.World{
		Disk: impl.Disk{Sectors: usedPool(), Epochs: []int{1, impl.MaxEpoch, impl.MaxEpoch}},
		Seen: []int{0, impl.MaxTxn, impl.MaxTxn},
	}
	for i := range impl.MaxPend {
		w.Disk = underWay(w.Disk, i%impl.MaxHosts, blockOut(i%impl.Blocks, fullText()))
	}
	for id := range impl.MaxHosts {
		h := impl.Host{Id: id, Epoch: w.Disk.Epochs[id], Up: true, Ready: true, Busy: true, Op: writeOp(), Pc: 5 + id, Txn: impl.MaxTxn}
		h.Plan = impl.Plan{Block: impl.Blocks - 1, Text: fullText(), Outs: lastOuts(impl.MaxOuts)}
		w.Hosts = append(w.Hosts, h)
	}
	for i := range impl.MaxLog {
		w.Log = append(w.Log, eventOf(i))
		w.Replies = append(w.Replies, replyOf(i, impl.MaxLog-i))
	}
	w.Log[0].Txn = impl.MaxTxn
	w.Replies[0].Data = strings.Repeat("d", impl.MaxSector)
	return w
}

type namedWorld struct {
	what  string
	world impl.World
}

type worldList []namedWorld

func (l *worldList) add(what string, w impl.World, change func(w *impl.World)) {
	w = cloneWorld(w)
	change(&w)
	*l = append(*l, namedWorld{what, w})
}

// eachWorld hands on downWorld, busyWorld and fullWorld.
func (l *worldList) each(what string, change func(w *impl.World)) {
	for _, w := range []impl.World{downWorld(), busyWorld(), fullWorld()} {
		l.add(what, w, change)
	}
}

func rightWorlds() worldList {
	var l worldList
	l.each("as it is", func(w *impl.World) {})
	l.add("a new one", impl.NewWorld(), func(w *impl.World) {})
	l.each("no Log, nor At", func(w *impl.World) { w.Log, w.Replies = nil, []impl.Reply{replyOf(0, 0)} })
	l.each("no Log, no Replies", func(w *impl.World) { w.Log, w.Replies = []impl.Event{}, []impl.Reply{} })
	l.each("MaxLog of Log", func(w *impl.World) {
		w.Log = slices.Repeat([]impl.Event{eventOf(5)}, impl.MaxLog)
		w.Replies = append(w.Replies[:2], replyOf(2, impl.MaxLog))
	})
	l.each("MaxLog of Replies", func(w *impl.World) { w.Replies = slices.Repeat([]impl.Reply{replyOf(3, 2)}, impl.MaxLog) })
	for host := range impl.MaxHosts {
		for _, txn := range []int{0, 1, impl.MaxTxn} {
			l.each("Seen", func(w *impl.World) { w.Seen[host] = txn })
		}
	}
	l = append(l, rightEvents()...)
	l = append(l, rightReplies()...)
	return append(l, rightWorldHosts()...)
}

func rightEvents() worldList {
	var l worldList
	for _, at := range []int{0, 1, 2} {
		for host := range impl.MaxHosts {
			l.each("an Event's Host", func(w *impl.World) { w.Log[at].Host = host })
		}
		for _, txn := range []int{1, 2, impl.MaxTxn} {
			l.each("an Event's Txn", func(w *impl.World) { w.Log[at].Txn = txn })
		}
		for kind := impl.OpCreate; kind <= impl.OpDrain; kind++ {
			for _, o := range []impl.Op{someOps(kind)[0], tail(someOps(kind))[0]} {
				l.each("an Event's Op", func(w *impl.World) { w.Log[at].Op = o })
			}
		}
	}
	l.each("an Event's Op has the longest Text", func(w *impl.World) { w.Log[1].Op = impl.Op{Kind: impl.OpWrite, Text: fullText()} })
	return l
}

func rightReplies() worldList {
	var l worldList
	for _, i := range []int{0, 1, 2} {
		for host := range impl.MaxHosts {
			l.each("a Reply's Host", func(w *impl.World) { w.Replies[i].Host = host })
		}
		for _, k := range callKinds() {
			l.each("a Reply's Op", func(w *impl.World) { w.Replies[i].Op = firstCall(k) })
		}
		for code := range impl.PlFull + 1 {
			l.each("a Reply's Code", func(w *impl.World) { w.Replies[i].Code = code })
		}
		for _, size := range []int{0, 1, impl.MaxBlock + 1, impl.MaxSector} {
			l.each("a Reply's Data", func(w *impl.World) { w.Replies[i].Data = strings.Repeat("d", size) })
		}
		for _, at := range []int{0, 1, 3} {
			l.each("a Reply's At", func(w *impl.World) { w.Replies[i].At = at })
		}
		l.each("a Reply's At is how many Log are", func(w *impl.World) { w.Replies[i].At = len(w.Log) })
	}
	return l
}

// rightWorldHosts are worlds with each right host at its number, on a disk that lets it have its epoch.
func rightWorldHosts() worldList {
	var l worldList
	for _, right := range rightHosts() {
		h := right.host
		for _, more := range []int{0, 1} {
			if epoch := max(1, h.Epoch+more); epoch <= impl.MaxEpoch {
				l.add(right.what, downWorld(), func(w *impl.World) {
					w.Disk.Epochs[h.Id] = epoch
					w.Hosts[h.Id] = h
				})
			}
		}
	}
	return l
}

func wrongWorlds() worldList {
	l := worldList{{"the zero one", impl.World{}}}
	l = append(l, wrongWorldDisks()...)
	l = append(l, wrongWorldHosts()...)
	l = append(l, wrongEvents()...)
	l = append(l, wrongReplies()...)
	l.each("Seen lacks", func(w *impl.World) { w.Seen = nil })
	l.each("one Seen too few", func(w *impl.World) { w.Seen = w.Seen[:2] })
	l.each("one Seen too many", func(w *impl.World) { w.Seen = append(w.Seen, 0) })
	for host := range impl.MaxHosts {
		for _, n := range []int{-1, impl.MaxTxn + 1, math.MinInt, math.MaxInt} {
			l.each("Seen out of range", func(w *impl.World) { w.Seen[host] = n })
		}
	}
	return l
}

func wrongWorldDisks() worldList {
	var l worldList
	add := func(what string, change func(d *impl.Disk)) {
		l.add(what, downWorld(), func(w *impl.World) { change(&w.Disk) })
		l.add(what, busyWorld(), func(w *impl.World) { change(&w.Disk) })
	}
	for _, wrong := range wrongDisks() {
		add(wrong.what, func(d *impl.Disk) { *d = cloneDisk(wrong.d) })
	}
	for _, right := range []impl.Disk{busyDisk(), fullDisk()} {
		add("a disk that has no pool", func(d *impl.Disk) { *d = right })
	}
	for _, broken := range brokenPools(stepDisk().Sectors) {
		add(broken.what, func(d *impl.Disk) { d.Sectors = broken.sectors })
	}
	add("the epochs lack", func(d *impl.Disk) { d.Epochs, d.Pend = nil, nil })
	add("one epoch too few", func(d *impl.Disk) { d.Epochs, d.Pend = d.Epochs[:2], nil })
	add("one epoch too many", func(d *impl.Disk) { d.Epochs = append(d.Epochs, 1) })
	add("an epoch above MaxEpoch", func(d *impl.Disk) { d.Epochs[0], d.Pend = impl.MaxEpoch+1, nil })
	add("an epoch of 0", func(d *impl.Disk) { d.Epochs[0], d.Pend = 0, nil })
	add("MaxPend and one more", func(d *impl.Disk) {
		d.Pend = slices.Repeat([]impl.Write{{Host: 0, Epoch: 2, Sector: 33}}, impl.MaxPend+1)
	})
	for _, write := range []impl.Write{
		{Host: -1, Epoch: 2}, {Host: 3, Epoch: 2}, {Host: 0, Epoch: 1}, {Host: 0, Epoch: 3}, {Host: 0, Epoch: 2, Sector: -1},
		{Host: 0, Epoch: 2, Sector: impl.Sectors}, {Host: 0, Epoch: 2, Text: strings.Repeat("t", impl.MaxSector+1)},
	} {
		add("a write under way is not right", func(d *impl.Disk) { d.Pend = append(d.Pend, write) })
	}
	return l
}

func wrongWorldHosts() worldList {
	var l worldList
	for _, n := range []int{0, 1, 2} {
		l.each("too few hosts", func(w *impl.World) { w.Hosts = w.Hosts[:n] })
		l.each("the first hosts lack", func(w *impl.World) { w.Hosts = w.Hosts[impl.MaxHosts-n:] })
	}
	l.each("one host too many", func(w *impl.World) { w.Hosts = append(w.Hosts, downHost(2)) })
	l.each("a host 3", func(w *impl.World) { w.Hosts = append(w.Hosts, downHost(3)) })
	for _, wrong := range wrongHosts() {
		for at := range impl.MaxHosts {
			l.add(wrong.what, downWorld(), func(w *impl.World) {
				w.Disk.Epochs = slices.Repeat([]int{impl.MaxEpoch}, impl.MaxHosts)
				w.Hosts[at] = wrong.host
				if wrong.host.Id >= 0 && wrong.host.Id < impl.MaxHosts {
					w.Hosts[at].Id = at
				}
			})
		}
	}
	for at := range impl.MaxHosts {
		for id := range impl.MaxHosts {
			for _, h := range []impl.Host{downHost(id), {Id: id, Epoch: 1, Up: true}} {
				if id != at {
					l.each("a host whose Id is not its number", func(w *impl.World) { w.Hosts[at] = h })
				}
			}
		}
		l.each("hosts that stand elsewhere", func(w *impl.World) {
			next := (at + 1) % impl.MaxHosts
			w.Hosts[at], w.Hosts[next] = w.Hosts[next], w.Hosts[at]
		})
		for _, above := range []int{1, 2, 90} {
			l.add("an Epoch above that on the disk", downWorld(), func(w *impl.World) {
				w.Hosts[at] = impl.Host{Id: at, Epoch: w.Disk.Epochs[at] + above, Up: true}
			})
		}
	}
	return l
}

func wrongEvents() worldList {
	var l worldList
	l.each("MaxLog and one more", func(w *impl.World) { w.Log = slices.Repeat([]impl.Event{eventOf(5)}, impl.MaxLog+1) })
	for _, at := range []int{0, 1, 2} {
		for _, host := range []int{-1, impl.MaxHosts, math.MinInt, math.MaxInt} {
			l.each("an Event's Host out of range", func(w *impl.World) { w.Log[at].Host = host })
		}
		for _, txn := range []int{0, -1, impl.MaxTxn + 1, math.MinInt, math.MaxInt} {
			l.each("an Event's Txn out of range", func(w *impl.World) { w.Log[at].Txn = txn })
		}
		for kind := impl.OpRead; kind <= impl.OpRecover; kind++ {
			l.each("an Event's Op above OpDrain", func(w *impl.World) { w.Log[at].Op = someOps(kind)[0] })
		}
	}
	for _, o := range wrongCalls() {
		if !impl.OpOk(o) {
			l.add("an Event's Op is no call", busyWorld(), func(w *impl.World) { w.Log[2].Op = o })
		}
	}
	l.add("the last Event of many", fullWorld(), func(w *impl.World) { w.Log[impl.MaxLog-1].Host = 3 })
	return l
}

func wrongReplies() worldList {
	var l worldList
	l.each("MaxLog of Replies and one more", func(w *impl.World) { w.Replies = slices.Repeat([]impl.Reply{replyOf(3, 2)}, impl.MaxLog+1) })
	for _, i := range []int{0, 1, 2} {
		for _, n := range []int{-1, math.MinInt, math.MaxInt} {
			l.each("a Reply's Host out of range", func(w *impl.World) { w.Replies[i].Host = n })
			l.each("a Reply's Code out of range", func(w *impl.World) { w.Replies[i].Code = n })
			l.each("a Reply's At out of range", func(w *impl.World) { w.Replies[i].At = n })
		}
		l.each("a Reply's Host past the end", func(w *impl.World) { w.Replies[i].Host = impl.MaxHosts })
		l.each("a Reply's Code above PlFull", func(w *impl.World) { w.Replies[i].Code = impl.PlFull + 1 })
		l.each("a Reply's At past the end", func(w *impl.World) { w.Replies[i].At = len(w.Log) + 1 })
		l.each("a Reply's Data too long", func(w *impl.World) { w.Replies[i].Data = strings.Repeat("d", impl.MaxSector+1) })
	}
	l.each("no Log, and a Reply's At is 1", func(w *impl.World) { w.Log, w.Replies = nil, []impl.Reply{replyOf(0, 1)} })
	for _, o := range wrongCalls() {
		if !impl.OpOk(o) {
			l.add("a Reply's Op is no call", busyWorld(), func(w *impl.World) { w.Replies[2].Op = o })
		}
	}
	l.add("the last Reply of many", fullWorld(), func(w *impl.World) { w.Replies[impl.MaxLog-1].Code = -1 })
	return l
}

func wantWorldOk(t *testing.T, what string, w impl.World, want bool) {
	t.Helper()
	room := roomyWorld(w)
	before := worldRoom(room)
	if got := impl.WorldOk(room); got != want {
		t.Errorf("%s: WorldOk is %v", what, got)
	}
	if !reflect.DeepEqual(worldRoom(room), before) {
		t.Errorf("%s: WorldOk changed its world, or the room behind it", what)
	}
}

func TestWorldLimits(t *testing.T) {
	limits := []int{impl.MaxActs, impl.MaxLog, impl.AcStep, impl.AcCall, impl.AcCrash, impl.AcRise, impl.AcLand, impl.AcLose}
	if !slices.Equal(limits, []int{400, 400, 1, 2, 3, 4, 5, 6}) {
		t.Error("limits", limits)
	}
}

func TestWorldOk(t *testing.T) {
	for _, right := range rightWorlds() {
		wantWorldOk(t, right.what, right.world, true)
	}
	for _, wrong := range wrongWorlds() {
		wantWorldOk(t, wrong.what, wrong.world, false)
	}
}

func TestNewWorld(t *testing.T) {
	want := impl.World{
		Disk:  impl.Disk{Sectors: freshPool(), Epochs: []int{1, 1, 1}},
		Hosts: []impl.Host{{Id: 0}, {Id: 1}, {Id: 2}},
		Seen:  []int{0, 0, 0},
	}
	wantWorld(t, "a new world", impl.NewWorld(), want)
	wantWorldOk(t, "a new world", impl.NewWorld(), true)
	first, second := impl.NewWorld(), impl.NewWorld()
	wantOwnWorld(t, "a new world", second)
	wantWorld(t, "two new worlds share nothing", first, want)
	wantWorld(t, "a new world behind another one", impl.NewWorld(), want)
}

// plainWorldOk is the chapter's words once more.
func plainWorldOk(w impl.World) bool {
	if !impl.DiskOk(w.Disk) || !impl.PoolOk(w.Disk.Sectors) || len(w.Hosts) != 3 || len(w.Seen) != 3 || len(w.Log) > 400 || len(w.Replies) > 400 {
		return false
	}
	within := func(n int, low int, high int) bool { return low <= n && n <= high }
	ok := true
	for i, h := range w.Hosts {
		ok = ok && impl.HostOk(h) && h.Id == i && !(h.Up && h.Epoch > w.Disk.Epochs[i]) && within(w.Seen[i], 0, 1000000)
	}
	for _, e := range w.Log {
		ok = ok && within(e.Host, 0, 2) && within(e.Txn, 1, 1000000) && plainOpOk(e.Op) && e.Op.Kind < 7
	}
	for _, r := range w.Replies {
		ok = ok && within(r.Host, 0, 2) && plainOpOk(r.Op) && within(r.Code, 0, 6) && len(r.Data) < 701 && within(r.At, 0, len(w.Log))
	}
	return ok
}

func TestWorldOkAsSaid(t *testing.T) {
	for _, w := range append(rightWorlds(), wrongWorlds()...) {
		if got, want := impl.WorldOk(w.world), plainWorldOk(w.world); got != want {
			t.Error(fmt.Sprint(w.what, ": WorldOk is ", got))
		}
	}
}
