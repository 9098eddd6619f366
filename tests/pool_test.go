package tests

import (
	"fmt"
	"math"
	"math/rand"
	"slices"
	"strings"
	"testing"

	"loop.example/g00761/impl"
)

// nothing stands for a place that has nothing, where volumes are told by hand.
const nothing = "(nothing)"

// vol is a volume that is On with these texts from place 0 on, and nothing behind them.
func vol(texts ...string) impl.PVol {
	out := impl.PVol{On: true, Has: make([]bool, 4), Texts: make([]string, 4)}
	for at, text := range texts {
		if text != nothing {
			out.Has[at], out.Texts[at] = true, text
		}
	}
	return out
}

// off is a volume that is not On.
func off() impl.PVol { return impl.PVol{Has: make([]bool, 4), Texts: make([]string, 4)} }

func pool(vols ...impl.PVol) impl.Pool { return impl.Pool{Vols: vols} }

func emptyPool() impl.Pool { return pool(off(), off(), off(), off()) }

func fullText() string { return strings.Repeat("\xff", impl.MaxBlock) }

// somePool has volumes with something and nothing, not On, and On without anything.
func somePool() impl.Pool {
	return pool(vol("a", "", nothing, fullText()), off(), vol(), vol("a", "b", "c", "d"))
}

func clonePool(p impl.Pool) impl.Pool {
	out := impl.Pool{Vols: slices.Clone(p.Vols)}
	for i, v := range p.Vols {
		out.Vols[i] = impl.PVol{On: v.On, Has: slices.Clone(v.Has), Texts: slices.Clone(v.Texts)}
	}
	return out
}

// someWith is somePool with something other than there.
func someWith(change func(p *impl.Pool)) impl.Pool {
	p := somePool()
	change(&p)
	return p
}

func samePool(a impl.Pool, b impl.Pool) bool {
	return slices.EqualFunc(a.Vols, b.Vols, func(v impl.PVol, w impl.PVol) bool {
		return v.On == w.On && slices.Equal(v.Has, w.Has) && slices.Equal(v.Texts, w.Texts)
	})
}

func wantModel(t *testing.T, what string, p impl.Pool, want bool) {
	t.Helper()
	room := roomyPool(p)
	before := poolRoom(room)
	if got := impl.ModelOk(room); got != want {
		t.Errorf("%s: ModelOk is %v of %+v", what, got, p)
	}
	if poolRoom(room) != before {
		t.Errorf("%s: ModelOk changed its pool, or the room behind it", what)
	}
}

// roomyPool has marked spare room behind each of its lists.
func roomyPool(p impl.Pool) impl.Pool {
	var vols []impl.PVol
	for _, v := range p.Vols {
		has := append(slices.Clone(v.Has), true, false, true, true, false)[:len(v.Has)]
		texts := append(slices.Clone(v.Texts), "spare", "spare", "spare", "spare", "spare")[:len(v.Texts)]
		vols = append(vols, impl.PVol{On: v.On, Has: has, Texts: texts})
	}
	spare := impl.PVol{On: true, Has: []bool{true}, Texts: []string{"spare"}}
	return impl.Pool{Vols: append(vols, spare, spare)[:len(p.Vols)]}
}

// poolRoom tells a pool with all that stands in the room behind its lists.
func poolRoom(p impl.Pool) string {
	var out strings.Builder
	fmt.Fprintln(&out, len(p.Vols))
	for _, v := range p.Vols[:cap(p.Vols)] {
		fmt.Fprintf(&out, "%v %d %d %v %q\n", v.On, len(v.Has), len(v.Texts), v.Has[:cap(v.Has)], v.Texts[:cap(v.Texts)])
	}
	return out.String()
}

func fill[T any](list []T, value T) {
	list = list[:cap(list)]
	for i := range list {
		list[i] = value
	}
}

// wantOwnLists asks that no two lists of one answer share memory, and leaves the answer spoiled.
func wantOwnLists(t *testing.T, what string, p impl.Pool) {
	t.Helper()
	for _, v := range p.Vols {
		fill(v.Has, false)
		fill(v.Texts, "")
	}
	for i, v := range p.Vols {
		fill(v.Has, true)
		fill(v.Texts, "spoiled")
		for j, other := range p.Vols {
			if i != j && (slices.Contains(other.Has, true) || slices.Contains(other.Texts, "spoiled")) {
				t.Errorf("%s: volumes %d and %d of the answer share memory", what, i, j)
			}
		}
		fill(v.Has, false)
		fill(v.Texts, "")
	}
	fill(p.Vols, impl.PVol{On: true, Has: []bool{true}, Texts: []string{"spoiled"}})
}

// poolApart asks twice, and that nothing is shared by two answers, or by two lists of one.
func poolApart(t *testing.T, what string, ask func() (impl.Pool, bool)) (impl.Pool, bool) {
	t.Helper()
	first, done := ask()
	second, again := ask()
	if !samePool(first, second) || done != again {
		t.Errorf("%s: two answers are %+v %v and %+v %v", what, first, done, second, again)
	}
	kept := clonePool(first)
	wantOwnLists(t, what, second)
	if !samePool(first, kept) {
		t.Errorf("%s: two answers share memory", what)
	}
	return kept, done
}

// doOf asks, too, that the pool and the room behind it stay, and that no answer shares memory with it.
func doOf(t *testing.T, p impl.Pool, o impl.Op) (impl.Pool, bool) {
	t.Helper()
	room := roomyPool(p)
	before := poolRoom(room)
	what := fmt.Sprintf("PoolDo of %+v", o)
	got, done := poolApart(t, what, func() (impl.Pool, bool) {
		next, done := impl.PoolDo(room, o)
		if poolRoom(room) != before {
			t.Errorf("%s changed its pool, or the room behind it", what)
		}
		return next, done
	})
	if poolRoom(room) != before {
		t.Errorf("an answer of %s shares memory with its pool", what)
	}
	return got, done
}

func wantDo(t *testing.T, what string, p impl.Pool, o impl.Op, want impl.Pool, wantDone bool) {
	t.Helper()
	got, done := doOf(t, p, o)
	if done != wantDone || !samePool(got, want) {
		t.Errorf("%s: PoolDo of %+v on %+v is %+v %v, not %+v %v", what, o, p, got, done, want, wantDone)
	}
	wantModel(t, what+", behind it", got, impl.ModelOk(p))
}

// wantDone asks for a call that is done, and makes of the pool what change makes of it.
func wantDone(t *testing.T, what string, p impl.Pool, o impl.Op, change func(p *impl.Pool)) {
	t.Helper()
	want := clonePool(p)
	change(&want)
	wantDo(t, what, p, o, want, true)
}

// wantNotDone asks for a call that leaves the pool as it is.
func wantNotDone(t *testing.T, what string, p impl.Pool, o impl.Op) {
	t.Helper()
	wantDo(t, what, p, o, p, false)
}

func wantReadOf(t *testing.T, what string, p impl.Pool, vol int, at int, want string) {
	t.Helper()
	room := roomyPool(p)
	before := poolRoom(room)
	if got := impl.ReadOf(room, vol, at); got != want {
		t.Errorf("%s: ReadOf volume %d at %d is %q, not %q", what, vol, at, got, want)
	}
	if poolRoom(room) != before {
		t.Errorf("%s: ReadOf changed its pool, or the room behind it", what)
	}
}

func TestNewPool(t *testing.T) {
	got, _ := poolApart(t, "NewPool", func() (impl.Pool, bool) { return impl.NewPool(), true })
	if !samePool(got, emptyPool()) {
		t.Errorf("NewPool is %+v", got)
	}
	wantModel(t, "NewPool", impl.NewPool(), true)
	for i, v := range impl.NewPool().Vols {
		if v.On || len(v.Has) != impl.VBlocks || len(v.Texts) != impl.VBlocks {
			t.Errorf("volume %d of NewPool is %+v", i, v)
		}
	}
}

func rightPools() []impl.Pool {
	all := vol("", "", "", "")
	full := vol(fullText(), fullText(), fullText(), fullText())
	out := []impl.Pool{
		emptyPool(), somePool(), pool(vol(), vol(), vol(), vol()), pool(all, all, all, all), pool(full, full, full, full),
		pool(off(), vol("x"), off(), off()), pool(vol(nothing, nothing, nothing, "\x00"), off(), off(), vol("\x00\xff")),
	}
	for i := range impl.MaxVols {
		for at := range impl.VBlocks {
			for size := range impl.MaxBlock + 1 {
				p := emptyPool()
				p.Vols[i].On, p.Vols[i].Has[at] = true, true
				p.Vols[i].Texts[at] = strings.Repeat("t", size)
				out = append(out, p)
			}
		}
	}
	return out
}

type wrongPool struct {
	what string
	pool impl.Pool
}

// wrongLists are pools whose lists are too short or too long.
func wrongLists() []wrongPool {
	out := []wrongPool{{"the zero one", impl.Pool{}}, {"volumes without lists", pool(make([]impl.PVol, 4)...)}}
	add := func(what string, change func(p *impl.Pool)) { out = append(out, wrongPool{what, someWith(change)}) }
	for n := range impl.MaxVols {
		add(fmt.Sprint(n, " volumes"), func(p *impl.Pool) { p.Vols = p.Vols[:n] })
	}
	for _, more := range []impl.PVol{vol(), off(), vol("x"), {}} {
		add("one volume too many", func(p *impl.Pool) { p.Vols = append(p.Vols, more) })
	}
	add("every volume twice", func(p *impl.Pool) { p.Vols = append(p.Vols, p.Vols...) })
	for i := range impl.MaxVols {
		for n := range impl.VBlocks {
			add("too few of Has", func(p *impl.Pool) { p.Vols[i].Has = p.Vols[i].Has[:n] })
			add("too few of Texts", func(p *impl.Pool) { p.Vols[i].Texts = p.Vols[i].Texts[:n] })
			add("too few of both", func(p *impl.Pool) {
				p.Vols[i].Has, p.Vols[i].Texts = p.Vols[i].Has[:n], p.Vols[i].Texts[:n]
			})
		}
		add("too many of Has", func(p *impl.Pool) { p.Vols[i].Has = append(p.Vols[i].Has, false) })
		add("too many of Texts", func(p *impl.Pool) { p.Vols[i].Texts = append(p.Vols[i].Texts, "") })
		add("too many of both", func(p *impl.Pool) {
			p.Vols[i].Has, p.Vols[i].Texts = append(p.Vols[i].Has, false), append(p.Vols[i].Texts, "")
		})
		add("one of Has is in the wrong list", func(p *impl.Pool) {
			p.Vols[i].Has, p.Vols[i].Texts = p.Vols[i].Has[:3], append(p.Vols[i].Texts, "")
		})
	}
	return out
}

// wrongPlaces are pools in which a place has what it may not have.
func wrongPlaces() []wrongPool {
	var out []wrongPool
	add := func(what string, i int, at int, on bool, has bool, text string) {
		base := vol()
		base.On = on
		base.Has[at], base.Texts[at] = has, text
		out = append(out, wrongPool{what, someWith(func(p *impl.Pool) { p.Vols[i] = base })})
		other := emptyPool()
		other.Vols[i] = base
		out = append(out, wrongPool{what + ", alone", other})
	}
	for i := range impl.MaxVols {
		for at := range impl.VBlocks {
			add("a Text too long", i, at, true, true, strings.Repeat("t", impl.MaxBlock+1))
			add("a Text far too long", i, at, true, true, strings.Repeat("t", 1000))
			add("a Text where nothing is", i, at, true, false, "t")
			add("a Text of one nought where nothing is", i, at, true, false, "\x00")
			add("a Text too long where nothing is", i, at, true, false, strings.Repeat("t", impl.MaxBlock+1))
			add("Has where it is not On", i, at, false, true, "")
			add("Has and a Text where it is not On", i, at, false, true, "t")
			add("a Text where nothing is and it is not On", i, at, false, false, "t")
		}
	}
	return out
}

func wrongPools() []wrongPool { return append(wrongLists(), wrongPlaces()...) }

func TestModelOk(t *testing.T) {
	for _, p := range rightPools() {
		wantModel(t, "a right pool", p, true)
	}
	for _, wrong := range wrongPools() {
		wantModel(t, wrong.what, wrong.pool, false)
	}
}

func TestModelOkDoesNotLookIntoTheRoomBehind(t *testing.T) {
	p := somePool()
	for i := range p.Vols {
		p.Vols[i].Has = append(p.Vols[i].Has, true, true)[:4]
		p.Vols[i].Texts = append(p.Vols[i].Texts, "t", strings.Repeat("t", 99))[:4]
	}
	p.Vols = append(p.Vols, impl.PVol{Has: []bool{true}})[:4]
	wantModel(t, "what stands in the room behind does not count", p, true)
	p.Vols = p.Vols[:5]
	wantModel(t, "it counts where it is in the list", p, false)
}

// eachKind are calls of all kinds, right ones.
func eachKind() []impl.Op {
	var out []impl.Op
	for _, k := range callKinds() {
		out = append(out, someOps(k.kind)...)
	}
	return out
}

func wrongCalls() []impl.Op {
	full := fullText()
	return []impl.Op{
		{}, {Kind: 13}, {Kind: -1}, {Kind: math.MinInt}, {Kind: math.MaxInt}, {Vol: 1}, {Kind: 0, Vol: 2, At: 1, Text: "t"},
		{Kind: impl.OpCreate, Vol: -1}, {Kind: impl.OpCreate, Vol: 4}, {Kind: impl.OpCreate, Vol: math.MinInt}, {Kind: impl.OpCreate, Vol: math.MaxInt},
		{Kind: impl.OpCreate, Vol: 1, To: 1}, {Kind: impl.OpCreate, Vol: 1, At: 1}, {Kind: impl.OpCreate, Vol: 1, Text: "t"},
		{Kind: impl.OpDelete, Vol: -1}, {Kind: impl.OpDelete, Vol: 4}, {Kind: impl.OpDelete, To: 1}, {Kind: impl.OpDelete, At: 1}, {Kind: impl.OpDelete, Text: "t"},
		{Kind: impl.OpWrite, Vol: -1, Text: "t"}, {Kind: impl.OpWrite, Vol: 4, Text: "t"}, {Kind: impl.OpWrite, At: -1, Text: "t"}, {Kind: impl.OpWrite, At: 4, Text: "t"},
		{Kind: impl.OpWrite, To: 1, Text: "t"}, {Kind: impl.OpWrite, Text: full + "t"}, {Kind: impl.OpWrite, At: math.MaxInt}, {Kind: impl.OpWrite, At: math.MinInt},
		{Kind: impl.OpDiscard, Vol: -1}, {Kind: impl.OpDiscard, Vol: 4}, {Kind: impl.OpDiscard, At: -1}, {Kind: impl.OpDiscard, At: 4}, {Kind: impl.OpDiscard, To: 1}, {Kind: impl.OpDiscard, Text: "t"},
		{Kind: impl.OpSnap}, {Kind: impl.OpSnap, Vol: 1, To: 1}, {Kind: impl.OpSnap, Vol: 3, To: 3}, {Kind: impl.OpSnap, Vol: -1, To: 1}, {Kind: impl.OpSnap, Vol: 4, To: 1},
		{Kind: impl.OpSnap, To: -1}, {Kind: impl.OpSnap, To: 4}, {Kind: impl.OpSnap, To: 1, At: 1}, {Kind: impl.OpSnap, To: 1, Text: "t"}, {Kind: impl.OpSnap, To: math.MaxInt},
		{Kind: impl.OpDrain, Vol: 1}, {Kind: impl.OpDrain, To: 1}, {Kind: impl.OpDrain, At: 1}, {Kind: impl.OpDrain, Text: "t"}, {Kind: impl.OpDrain, Vol: -1},
		{Kind: impl.OpRead, Vol: 4}, {Kind: impl.OpHold, Vol: -1}, {Kind: impl.OpTake, Vol: 3}, {Kind: impl.OpRecover, Vol: 3},
	}
}

func TestPoolDoWhereThePoolIsNotRight(t *testing.T) {
	ops := wrongCalls()[:6]
	for _, k := range callKinds() {
		ops = append(ops, firstCall(k))
	}
	ops = append(ops, impl.Op{Kind: impl.OpWrite, Vol: 3, At: 3, Text: "t"}, impl.Op{Kind: impl.OpDelete, Vol: 3}, impl.Op{Kind: impl.OpCreate, Vol: 1})
	for _, wrong := range wrongPools() {
		for _, o := range ops {
			wantDo(t, wrong.what, wrong.pool, o, impl.Pool{}, false)
		}
	}
}

func TestPoolDoOfWrongCalls(t *testing.T) {
	for _, p := range []impl.Pool{emptyPool(), somePool(), pool(vol("x"), vol("y"), vol("z"), vol("w"))} {
		for _, o := range wrongCalls() {
			wantNotDone(t, "a wrong call", p, o)
		}
	}
}

func TestPoolDoOfKindsThatChangeNothing(t *testing.T) {
	for _, p := range []impl.Pool{emptyPool(), somePool(), pool(vol(), vol(), vol(), vol())} {
		wantDo(t, "OpDrain", p, impl.Op{Kind: impl.OpDrain}, p, true)
		for kind := impl.OpRead; kind <= impl.OpRecover; kind++ {
			for _, o := range someOps(kind) {
				wantNotDone(t, "a kind that is none of the pool's", p, o)
			}
		}
	}
}

func TestPoolDoOfCreate(t *testing.T) {
	for i := range impl.MaxVols {
		o := impl.Op{Kind: impl.OpCreate, Vol: i}
		wantDone(t, "the first one", emptyPool(), o, func(p *impl.Pool) { p.Vols[i].On = true })
		for _, other := range []impl.PVol{off(), vol(), vol("x", "", fullText())} {
			p := pool(other, other, other, other)
			p.Vols[i] = off()
			wantDone(t, "one that is not On", p, o, func(p *impl.Pool) { p.Vols[i] = vol() })
			for _, v := range []impl.PVol{vol(), vol("x"), vol("", "", "", "")} {
				p.Vols[i] = v
				wantNotDone(t, "one that is On", p, o)
			}
		}
	}
}

func TestPoolDoOfDelete(t *testing.T) {
	for i := range impl.MaxVols {
		o := impl.Op{Kind: impl.OpDelete, Vol: i}
		for _, other := range []impl.PVol{off(), vol(), vol("x", "", fullText())} {
			p := pool(other, other, other, other)
			p.Vols[i] = off()
			wantNotDone(t, "one that is not On", p, o)
			for _, v := range []impl.PVol{vol(), vol("x"), vol("", "", "", ""), vol(nothing, nothing, nothing, fullText()), vol("a", "b", "c", "d")} {
				p.Vols[i] = v
				wantDone(t, "one that is On", p, o, func(p *impl.Pool) { p.Vols[i] = off() })
			}
		}
	}
}

// shortTexts are texts that may be written.
func shortTexts() []string {
	return []string{"", "t", "\x00", "\xff\x00", strings.Repeat("t", impl.MaxBlock-1), fullText()}
}

func TestPoolDoOfWriteAndDiscard(t *testing.T) {
	befores := []impl.PVol{vol(), vol("a"), vol("", "", "", ""), vol("a", "b", "c", "d"), vol(nothing, nothing, "c")}
	for i := range impl.MaxVols {
		for at := range impl.VBlocks {
			discard := impl.Op{Kind: impl.OpDiscard, Vol: i, At: at}
			p := pool(vol("x"), vol("y"), off(), vol("", "", "", ""))
			p.Vols[i] = off()
			wantNotDone(t, "one that is not On", p, discard)
			for _, text := range shortTexts() {
				wantNotDone(t, "one that is not On", p, impl.Op{Kind: impl.OpWrite, Vol: i, At: at, Text: text})
			}
			for _, before := range befores {
				p.Vols[i] = before
				for _, text := range shortTexts() {
					write := impl.Op{Kind: impl.OpWrite, Vol: i, At: at, Text: text}
					wantDone(t, "one that is On", p, write, func(p *impl.Pool) {
						p.Vols[i].Has[at], p.Vols[i].Texts[at] = true, text
					})
				}
				wantDone(t, "one that is On", p, discard, func(p *impl.Pool) {
					p.Vols[i].Has[at], p.Vols[i].Texts[at] = false, ""
				})
			}
		}
	}
}

func TestPoolDoOfWriteTooLong(t *testing.T) {
	for at := range impl.VBlocks {
		wantNotDone(t, "one byte too many", somePool(), impl.Op{Kind: impl.OpWrite, Vol: 3, At: at, Text: fullText() + "t"})
	}
}

func TestPoolDoOfSnap(t *testing.T) {
	volumes := []impl.PVol{vol(), vol("a", "", nothing, fullText()), vol("a", "b", "c", "d"), vol(nothing, nothing, nothing, ""), vol("", "", "", "")}
	for i := range impl.MaxVols {
		for to := range impl.MaxVols {
			o := impl.Op{Kind: impl.OpSnap, Vol: i, To: to}
			for _, of := range volumes {
				p := pool(vol("x"), off(), vol("y", "z"), off())
				p.Vols[i] = of
				if i == to {
					wantNotDone(t, "to itself", p, o)
					p.Vols[i] = off()
					wantNotDone(t, "to itself, not On", p, o)
					continue
				}
				p.Vols[to] = off()
				wantDone(t, "of one that is On to one that is not", p, o, func(p *impl.Pool) { p.Vols[to] = of })
				for _, other := range volumes {
					p.Vols[to] = other
					wantNotDone(t, "to one that is On", p, o)
				}
				p.Vols[i] = off()
				wantNotDone(t, "of one that is not On to one that is", p, o)
				p.Vols[to] = off()
				wantNotDone(t, "of one that is not On", p, o)
			}
		}
	}
}

func TestNothingIsLeftInOneThatIsCreatedAgain(t *testing.T) {
	p := somePool()
	for _, kind := range []int{impl.OpDelete, impl.OpCreate} {
		p, _ = impl.PoolDo(p, impl.Op{Kind: kind, Vol: 3})
	}
	want := somePool()
	want.Vols[3] = vol()
	if !samePool(p, want) {
		t.Errorf("deleted and created again it is %+v", p)
	}
}

// Where lists of the argument share memory, each volume is still changed alone.
func TestPoolDoOfPoolsThatShareMemory(t *testing.T) {
	one := vol("a", nothing, "c")
	none := off()
	ops := eachKind()
	for _, p := range []impl.Pool{pool(one, one, one, one), pool(one, none, one, none), pool(none, none, none, one)} {
		for _, o := range ops {
			want, wantDone := plainDo(p, o)
			got, done := impl.PoolDo(p, o)
			if done != wantDone || !samePool(got, want) {
				t.Errorf("PoolDo of %+v on volumes that share lists is %+v %v", o, got, done)
			}
			wantOwnLists(t, fmt.Sprintf("PoolDo of %+v", o), got)
		}
		if !samePool(pool(one, none), pool(vol("a", nothing, "c"), off())) {
			t.Fatal("a list that volumes share was changed")
		}
	}
}

// flatModel is the chapter's words once more: who is On, and what is there by volume and place.
type flatModel struct {
	on    map[int]bool
	there map[[2]int]string
}

func flatModelOf(p impl.Pool) flatModel {
	f := flatModel{on: map[int]bool{}, there: map[[2]int]string{}}
	for i, v := range p.Vols {
		if v.On {
			f.on[i] = true
		}
		for at, has := range v.Has {
			if has {
				f.there[[2]int{i, at}] = v.Texts[at]
			}
		}
	}
	return f
}

func (f flatModel) pool() impl.Pool {
	p := emptyPool()
	for i := range f.on {
		p.Vols[i].On = true
	}
	for at, text := range f.there {
		p.Vols[at[0]].Has[at[1]], p.Vols[at[0]].Texts[at[1]] = true, text
	}
	return p
}

func (f flatModel) do(o impl.Op) bool {
	switch {
	case o.Kind == impl.OpDrain:
	case o.Kind == impl.OpCreate && !f.on[o.Vol]:
		f.on[o.Vol] = true
	case o.Kind == impl.OpDelete && f.on[o.Vol]:
		delete(f.on, o.Vol)
		for at := range 4 {
			delete(f.there, [2]int{o.Vol, at})
		}
	case o.Kind == impl.OpWrite && f.on[o.Vol]:
		f.there[[2]int{o.Vol, o.At}] = o.Text
	case o.Kind == impl.OpDiscard && f.on[o.Vol]:
		delete(f.there, [2]int{o.Vol, o.At})
	case o.Kind == impl.OpSnap && f.on[o.Vol] && !f.on[o.To]:
		f.on[o.To] = true
		for at := range 4 {
			if text, has := f.there[[2]int{o.Vol, at}]; has {
				f.there[[2]int{o.To, at}] = text
			}
		}
	default:
		return false
	}
	return true
}

// plainDo is of a pool that is right.
func plainDo(p impl.Pool, o impl.Op) (impl.Pool, bool) {
	f := flatModelOf(p)
	done := plainOpOk(o) && f.do(o)
	return f.pool(), done
}

func plainModelOk(p impl.Pool) bool {
	if len(p.Vols) != 4 {
		return false
	}
	for _, v := range p.Vols {
		if len(v.Has) != 4 || len(v.Texts) != 4 || !v.On && slices.Contains(v.Has, true) {
			return false
		}
		for at, text := range v.Texts {
			if len(text) > 16 || text != "" && !v.Has[at] {
				return false
			}
		}
	}
	return true
}

func TestPoolDoOfEveryCall(t *testing.T) {
	t.Parallel()
	numbers := []int{-1, 0, 1, 2, 3, 4}
	for _, p := range []impl.Pool{emptyPool(), somePool()} {
		for kind := range 14 {
			for _, vol := range numbers {
				for _, to := range numbers {
					for _, at := range numbers {
						for _, size := range []int{0, 1, impl.MaxBlock, impl.MaxBlock + 1} {
							o := impl.Op{Kind: kind, Vol: vol, To: to, At: at, Text: strings.Repeat("t", size)}
							want, wantDone := plainDo(p, o)
							wantDo(t, "every call", p, o, want, wantDone)
						}
					}
				}
			}
		}
	}
}

func randomModel(r *rand.Rand) impl.Pool {
	p := emptyPool()
	for i := range p.Vols {
		if r.Intn(3) == 0 {
			continue
		}
		p.Vols[i].On = true
		for at := range impl.VBlocks {
			if r.Intn(2) == 0 {
				p.Vols[i].Has[at], p.Vols[i].Texts[at] = true, randomText(r, impl.MaxBlock)
			}
		}
	}
	return p
}

// randomCall is a right call, mostly of a kind that changes something.
func randomCall(r *rand.Rand) impl.Op {
	kind := 1 + r.Intn(impl.OpDrain)
	if r.Intn(10) == 0 {
		kind = 1 + r.Intn(impl.OpRecover)
	}
	ops := someOps(kind)
	o := ops[r.Intn(len(ops))]
	if kind == impl.OpWrite {
		o.Text = randomText(r, impl.MaxBlock)
	}
	return o
}

// spoilModel makes one thing of a right pool another one, which may be right or not.
func spoilModel(r *rand.Rand, p *impl.Pool) {
	v := &p.Vols[r.Intn(len(p.Vols))]
	switch at := r.Intn(impl.VBlocks); r.Intn(6) {
	case 0:
		v.On = !v.On
	case 1:
		v.Has[at] = !v.Has[at]
	case 2:
		v.Texts[at] = randomText(r, impl.MaxBlock+3)
	case 3:
		v.Has = v.Has[:at]
	case 4:
		v.Texts = append(v.Texts, "")
	case 5:
		v.Texts[at] = ""
	}
}

func TestModelOkOfManyPools(t *testing.T) {
	t.Parallel()
	r := rand.New(rand.NewSource(7))
	var right, wrong int
	for range 20000 {
		p := randomModel(r)
		spoilModel(r, &p)
		ok := plainModelOk(p)
		if ok {
			right++
		} else {
			wrong++
		}
		wantModel(t, "random", p, ok)
		o := randomCall(r)
		if !ok {
			wantDo(t, "random", p, o, impl.Pool{}, false)
			wantReadOf(t, "random", p, r.Intn(4), r.Intn(4), "")
		}
		if t.Failed() {
			return
		}
	}
	if right < 3000 || wrong < 3000 {
		t.Errorf("%d right and %d wrong pools", right, wrong)
	}
}

func TestManyCallsOneByOne(t *testing.T) {
	t.Parallel()
	r := rand.New(rand.NewSource(77))
	type kindDone struct {
		kind int
		done bool
	}
	met := map[kindDone]int{}
	for range 300 {
		p := impl.NewPool()
		for range 60 {
			o := randomCall(r)
			want, wantOk := plainDo(p, o)
			wantDo(t, "random", p, o, want, wantOk)
			next, done := impl.PoolDo(p, o)
			met[kindDone{o.Kind, done}]++
			for i := range impl.MaxVols {
				for at := range impl.VBlocks {
					if got := impl.ReadOf(next, i, at); got != want.Vols[i].Texts[at] {
						t.Errorf("behind %+v ReadOf volume %d at %d is %q", o, i, at, got)
					}
				}
			}
			wantModel(t, "random", next, true)
			if t.Failed() {
				return
			}
			p = next
		}
	}
	for kind := impl.OpCreate; kind <= impl.OpSnap; kind++ {
		for _, done := range []bool{false, true} {
			if n := met[kindDone{kind, done}]; n < 50 {
				t.Errorf("kind %d, done %v, is met %d times", kind, done, n)
			}
		}
	}
}

func TestWhatIsWrittenIsRead(t *testing.T) {
	for _, base := range []impl.Pool{pool(vol(), vol(), vol(), vol()), pool(vol("a", "b", "c", "d"), vol("e"), vol("", ""), vol("f"))} {
		for i := range impl.MaxVols {
			for at := range impl.VBlocks {
				for _, text := range shortTexts() {
					p, done := impl.PoolDo(base, impl.Op{Kind: impl.OpWrite, Vol: i, At: at, Text: text})
					if !done {
						t.Fatalf("a write of %q is not done", text)
					}
					for j := range impl.MaxVols {
						for k := range impl.VBlocks {
							want := base.Vols[j].Texts[k]
							if i == j && at == k {
								want = text
							}
							wantReadOf(t, "written", p, j, k, want)
						}
					}
				}
			}
		}
	}
}

// touches are calls of one volume that change what is in it.
func touches(i int) []impl.Op {
	out := []impl.Op{{Kind: impl.OpDelete, Vol: i}}
	for at := range impl.VBlocks {
		out = append(out, impl.Op{Kind: impl.OpWrite, Vol: i, At: at, Text: "new"}, impl.Op{Kind: impl.OpWrite, Vol: i, At: at}, impl.Op{Kind: impl.OpDiscard, Vol: i, At: at})
	}
	return out
}

func TestACopyStaysAsItIs(t *testing.T) {
	for _, of := range []impl.PVol{vol(), vol("a", "b", "c", "d"), vol("a", nothing, "", fullText())} {
		for i := range impl.MaxVols {
			for to := range impl.MaxVols {
				if i == to {
					continue
				}
				base := emptyPool()
				base.Vols[i] = of
				p, done := impl.PoolDo(base, impl.Op{Kind: impl.OpSnap, Vol: i, To: to})
				if !done || !samePool(pool(p.Vols[i], p.Vols[to]), pool(of, of)) {
					t.Fatalf("the copy of %+v is %+v", of, p)
				}
				for _, o := range touches(i) {
					next, _ := impl.PoolDo(p, o)
					if !samePool(pool(next.Vols[to]), pool(of)) {
						t.Errorf("behind %+v the copy is %+v, not %+v", o, next.Vols[to], of)
					}
				}
				for _, o := range touches(to) {
					next, _ := impl.PoolDo(p, o)
					if !samePool(pool(next.Vols[i]), pool(of)) {
						t.Errorf("behind %+v of its copy it is %+v, not %+v", o, next.Vols[i], of)
					}
				}
			}
		}
	}
}

func TestReadOf(t *testing.T) {
	p := somePool()
	for i, texts := range [][]string{{"a", "", "", fullText()}, {"", "", "", ""}, {"", "", "", ""}, {"a", "b", "c", "d"}} {
		for at, text := range texts {
			wantReadOf(t, "some pool", p, i, at, text)
		}
	}
	full := vol("a", "b", "c", "d")
	p = pool(full, full, full, full)
	for _, none := range []int{-1, 4, 5, 16, -4, math.MinInt, math.MaxInt} {
		for at := range 4 {
			wantReadOf(t, "no such volume", p, none, at, "")
			wantReadOf(t, "no such place", p, at, none, "")
		}
		wantReadOf(t, "neither", p, none, none, "")
	}
}

func TestReadOfWhereThePoolIsNotRight(t *testing.T) {
	for _, wrong := range wrongPools() {
		for i := -1; i <= 4; i++ {
			for at := -1; at <= 4; at++ {
				wantReadOf(t, wrong.what, wrong.pool, i, at, "")
			}
		}
	}
}

// abstractOf asks, too, that the sectors and the room behind them stay.
func abstractOf(t *testing.T, what string, s []string) (impl.Pool, bool) {
	t.Helper()
	room := append(slices.Clone(s), "spare", "spare", "spare")
	before := slices.Clone(room)
	got, ok := poolApart(t, what, func() (impl.Pool, bool) { return impl.Abstract(room[:len(s)]) })
	if !slices.Equal(room, before) {
		t.Errorf("%s: Abstract changed its sectors, or the room behind them", what)
	}
	return got, ok
}

func wantAbstract(t *testing.T, what string, s []string, want impl.Pool) {
	t.Helper()
	got, ok := abstractOf(t, what, s)
	if !ok || !samePool(got, want) {
		t.Errorf("%s: Abstract is %+v %v, not %+v", what, got, ok, want)
	}
	wantModel(t, what, got, true)
}

func wantNoAbstract(t *testing.T, what string, s []string) {
	t.Helper()
	if got, ok := abstractOf(t, what, s); ok || len(got.Vols) != 0 {
		t.Errorf("%s: Abstract is %+v %v", what, got, ok)
	}
}

// volOut is the sector of a volume that is On with this Map.
func volOut(i int, blocks ...int) impl.Out {
	text, _ := plainShow("v", impl.VolSec{Lease: planOther, On: true, Map: places(blocks...)})
	return impl.Out{Sector: 9 + i, Text: text}
}

func blockOut(block int, text string) impl.Out { return impl.Out{Sector: 16 + block, Text: text} }

// blockText is what stands in a block of donePool.
func blockText(block int) string { return newText(16+block, 116+block) }

func TestAbstractWhereThereIsNoPool(t *testing.T) {
	for _, right := range [][]string{freshPool(), poolWith(volOut(0, 1, 2)), allOpen()} {
		for _, broken := range brokenPools(right) {
			wantNoAbstract(t, broken.what, broken.sectors)
		}
	}
}

func TestAbstractOfDoneJournals(t *testing.T) {
	wantAbstract(t, "Format", impl.Format(), impl.NewPool())
	wantAbstract(t, "nothing On", donePool(), emptyPool())
	some := poolWith(volOut(0, 3, -1, 17), volOut(2), volOut(3, -1, -1, -1, 0))
	wantAbstract(t, "some On", some, pool(vol(blockText(3), nothing, blockText(17)), off(), vol(), vol(nothing, nothing, nothing, blockText(0))))
}

func TestAbstractOfBlocksThatAreShared(t *testing.T) {
	two := poolWith(volOut(1, 5, 6), volOut(3, 7, 5, -1, 6))
	wantAbstract(t, "two share blocks", two, pool(off(), vol(blockText(5), blockText(6)), off(), vol(blockText(7), blockText(5), nothing, blockText(6))))
	all := poolWith(volOut(0, 9, 9, 9, 9), volOut(1, 9), volOut(2, -1, 9), volOut(3, 9, 8))
	nine, eight := blockText(9), blockText(8)
	wantAbstract(t, "all share a block", all, pool(vol(nine, nine, nine, nine), vol(nine), vol(nothing, nine), vol(nine, eight)))
}

func TestAbstractOfBlocksWithoutBytesAndFull(t *testing.T) {
	s := poolWith(volOut(0, 0, 1, 0), blockOut(0, ""), blockOut(1, fullText()))
	wantAbstract(t, "empty and full blocks", s, pool(vol("", fullText(), ""), off(), off(), off()))
}

func TestAbstractOfEachPlace(t *testing.T) {
	for i := range impl.MaxVols {
		for at := range impl.VBlocks {
			for block := range impl.Blocks {
				blocks := places()
				blocks[at] = block
				want := emptyPool()
				want.Vols[i].On, want.Vols[i].Has[at], want.Vols[i].Texts[at] = true, true, blockText(block)
				wantAbstract(t, fmt.Sprint("volume ", i, " has block ", block, " at ", at), poolWith(volOut(i, blocks...)), want)
			}
		}
	}
}

func TestAbstractHangsOnNoLeaseAndNoCount(t *testing.T) {
	want := pool(vol(blockText(4), nothing, blockText(4)), off(), off(), off())
	for _, lease := range rightLeases() {
		v, _ := plainShow("v", impl.VolSec{Lease: lease, On: true, Map: []int{4, -1, 4, -1}})
		for _, count := range []int{0, 1, 2, impl.MaxRef} {
			g, _ := plainShow("g", impl.GroupSec{Lease: lease, Refs: slices.Repeat([]int{count}, impl.GBlocks)})
			f, _ := plainShow("f", []int{4, 4, 5})
			s := poolWith(impl.Out{Sector: 9, Text: v}, impl.Out{Sector: 13, Text: g}, impl.Out{Sector: 6, Text: f})
			wantAbstract(t, fmt.Sprint(lease, count), s, want)
		}
	}
}

func TestAbstractOfOpenJournals(t *testing.T) {
	for host := range impl.MaxHosts {
		created := poolWith(journalOf(host, 3, volOut(1)))
		wantAbstract(t, "one is created", created, pool(off(), vol(), off(), off()))
		written := poolWith(volOut(1, 2), journalOf(host, 3, volOut(1, 2, 7), outOf(13, 1)))
		wantAbstract(t, "one is written", written, pool(off(), vol(blockText(2), blockText(7)), off(), off()))
		deleted := poolWith(volOut(1, 2), volOut(2, 2), journalOf(host, 3, outOf(10, 1)))
		wantAbstract(t, "one is deleted", deleted, pool(off(), off(), vol(blockText(2)), off()))
		copied := poolWith(volOut(1, 2, -1, 3), journalOf(host, 3, volOut(3, 2, -1, 3)))
		wantAbstract(t, "one is copied", copied, pool(off(), vol(blockText(2), nothing, blockText(3)), off(), vol(blockText(2), nothing, blockText(3))))
		turned := poolWith(volOut(1, 2), journalOf(host, 3, volOut(0, 2), blockOut(2, "new")))
		wantAbstract(t, "a block is another one", turned, pool(vol("new"), vol("new"), off(), off()))
	}
	s := poolWith(journalOf(0, 1, volOut(0, 1)), journalOf(1, 1, volOut(0, 2), volOut(1, 1)), journalOf(2, 1, volOut(1, 3), volOut(2)))
	wantAbstract(t, "all three", s, pool(vol(blockText(2)), vol(blockText(3)), vol(), off()))
}

func TestAbstractOfASettledPoolIsTheSame(t *testing.T) {
	r := rand.New(rand.NewSource(70))
	for range 300 {
		s := randomDisk(r, 6, 0)
		want, ok := impl.Abstract(s)
		if !ok {
			t.Fatal("a right pool has no Abstract")
		}
		wantAbstract(t, "settled", impl.Settle(s), want)
	}
}

func TestAbstractWhereAnOutSpoilsThePool(t *testing.T) {
	for host := range impl.MaxHosts {
		for sector := range impl.Sectors {
			s := poolWith(volOut(0, 1), journalOf(host, 2, spoiling(sector)))
			if sector == 3+host {
				wantAbstract(t, "the own journal is marked", s, pool(vol(blockText(1)), off(), off(), off()))
				continue
			}
			wantNoAbstract(t, fmt.Sprint("host ", host, " spoils sector ", sector), s)
		}
		long := poolWith(journalOf(host, 2, blockOut(5, fullText()+"t")))
		wantNoAbstract(t, "a block that nobody has is too long", long)
		full := poolWith(volOut(0, 5), journalOf(host, 2, blockOut(5, fullText())))
		wantAbstract(t, "a block is full", full, pool(vol(fullText()), off(), off(), off()))
	}
	s := poolWith(journalOf(0, 1, spoiling(9)), journalOf(1, 2, volOut(0, 1)))
	wantNoAbstract(t, "the host behind would mend it", s)
}

// An Out may open a Journal that was settled already: that stays, and what it writes does not count.
func TestAbstractWhereAJournalIsOpenedBehind(t *testing.T) {
	s := poolWith(journalOf(1, 2, journalOf(0, 6, volOut(3, 1)), volOut(0, 2)))
	wantAbstract(t, "opened behind", s, pool(vol(blockText(2)), off(), off(), off()))
	s = poolWith(journalOf(1, 2, journalOf(2, 6, volOut(3, 1)), volOut(0, 2)))
	wantAbstract(t, "opened ahead", s, pool(vol(blockText(2)), off(), off(), vol(blockText(1))))
}

// randomDisk has volumes that are On, and journals that write volumes and blocks.
func randomDisk(r *rand.Rand, lowest int, wrongs int) []string {
	s := randomJournals(r, lowest, wrongs)
	for host := range impl.MaxHosts {
		if r.Intn(2) == 0 {
			s = changed(s, journalOf(host, 1+r.Intn(9), randomVol(r), blockOut(r.Intn(impl.Blocks), randomText(r, impl.MaxBlock))))
		}
	}
	for range 3 {
		s = changed(s, randomVol(r), blockOut(r.Intn(impl.Blocks), randomText(r, impl.MaxBlock)))
	}
	return s
}

func randomVol(r *rand.Rand) impl.Out {
	text, _ := plainShow("v", randomSector(r, "v"))
	return impl.Out{Sector: 9 + r.Intn(impl.MaxVols), Text: text}
}

func plainAbstract(s []string) (impl.Pool, bool) {
	s = plainSettle(s)
	if !impl.PoolOk(s) {
		return impl.Pool{}, false
	}
	p := emptyPool()
	for sector := 9; sector < 13; sector++ {
		sec, _ := impl.ReadVol(s[sector])
		p.Vols[sector-9].On = sec.On
		for at, block := range sec.Map {
			if block != -1 {
				p.Vols[sector-9].Has[at], p.Vols[sector-9].Texts[at] = true, s[16+block]
			}
		}
	}
	return p, true
}

func TestManyAbstractsAsSaid(t *testing.T) {
	t.Parallel()
	r := rand.New(rand.NewSource(707))
	var right, wrong int
	for range 4000 {
		s := randomDisk(r, 3*r.Intn(3), r.Intn(12))
		if want, ok := plainAbstract(s); ok {
			right++
			wantAbstract(t, "random", s, want)
		} else {
			wrong++
			wantNoAbstract(t, "random", s)
		}
		if t.Failed() {
			return
		}
	}
	if right < 500 || wrong < 500 {
		t.Errorf("%d right and %d wrong pools", right, wrong)
	}
}

// sectors is the pool's disk with no journal under way.
func (p *planPool) sectors() []string {
	s := freshPool()
	for i, v := range p.vols {
		s[9+i] = impl.ShowVol(v)
	}
	for i, g := range p.groups {
		s[13+i] = impl.ShowGroup(g)
	}
	for host, frees := range p.frees {
		s[6+host] = impl.ShowFrees(frees)
	}
	copy(s[16:], p.blocks)
	return s
}

// journaled is the disk as a host leaves it that wrote the plan's block and journal, and nothing more.
func journaled(s []string, me impl.Lease, o impl.Op, plan impl.Plan) []string {
	out := slices.Clone(s)
	if plan.Block >= 0 {
		out[16+plan.Block] = plan.Text
	}
	if len(plan.Outs) > 0 {
		out[3+me.Host] = impl.ShowJournal(impl.Journal{Txn: 1, Op: o, Outs: plan.Outs})
	}
	return out
}

// What MakePlan says, in a Journal that is open, makes of what the disk says what PoolDo makes of it.
func TestPlansInJournalsAreWhatPoolDoMakes(t *testing.T) {
	r := rand.New(rand.NewSource(75))
	done := 0
	for range 6000 {
		p := randomPool(r)
		me := impl.Lease{Host: r.Intn(impl.MaxHosts), Epoch: 1 + r.Intn(3)}
		p.shareOut(r, me)
		s := p.sectors()
		before, ok := impl.Abstract(s)
		if !ok {
			t.Fatalf("the disk %q says nothing", s)
		}
		ops := someOps(1 + r.Intn(impl.OpDrain))
		o := ops[r.Intn(len(ops))]
		plan := impl.MakePlan(p.view(me), o)
		if plan.Code != impl.PlOk {
			continue
		}
		done++
		want, should := impl.PoolDo(before, o)
		got, ok := impl.Abstract(journaled(s, me, o, plan))
		if !ok || !should || !samePool(got, want) {
			t.Fatalf("%+v makes of %+v %+v %v, not %+v %v", o, before, got, ok, want, should)
		}
	}
	if done < 1000 {
		t.Errorf("%d plans of 6000 are done", done)
	}
}
