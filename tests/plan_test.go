package tests

import (
	"fmt"
	"math"
	"math/rand"
	"slices"
	"strings"
	"testing"

	"loop.example/g00761/impl"
)

// kindNames says which things a kind of call names, and how many numbers each of them may be.
type kindNames struct {
	kind  int
	vols  int
	tos   int
	ats   int
	bytes int
}

func callKinds() []kindNames {
	return []kindNames{
		{kind: 1, vols: 4},
		{kind: 2, vols: 4},
		{kind: 3, vols: 4, ats: 4, bytes: 16},
		{kind: 4, vols: 4, ats: 4},
		{kind: 5, vols: 4, tos: 4},
		{kind: 6},
		{kind: 7, vols: 4, ats: 4},
		{kind: 8, vols: 4},
		{kind: 9, vols: 4},
		{kind: 10, vols: 3},
		{kind: 11, vols: 3},
		{kind: 12, vols: 3},
	}
}

// firstCall is the least right call of a kind.
func firstCall(k kindNames) impl.Op {
	o := impl.Op{Kind: k.kind}
	if k.kind == impl.OpSnap {
		o.To = 1
	}
	return o
}

func wantOpOk(t *testing.T, o impl.Op, want bool) {
	t.Helper()
	if got := impl.OpOk(o); got != want {
		t.Errorf("OpOk of %+v is %v", o, got)
	}
}

func TestPlanNumbers(t *testing.T) {
	kinds := []int{impl.OpCreate, impl.OpDelete, impl.OpWrite, impl.OpDiscard, impl.OpSnap, impl.OpDrain, impl.OpRead, impl.OpHold, impl.OpDrop, impl.OpTake, impl.OpGive, impl.OpRecover}
	if !slices.Equal(kinds, []int{1, 2, 3, 4, 5, 6, 7, 8, 9, 10, 11, 12}) {
		t.Error("kinds", kinds)
	}
	codes := []int{impl.PlOk, impl.PlBad, impl.PlNotMine, impl.PlNone, impl.PlNoSpace, impl.PlBusy, impl.PlFull}
	if !slices.Equal(codes, []int{0, 1, 2, 3, 4, 5, 6}) {
		t.Error("codes", codes)
	}
}

func TestOpOkByHand(t *testing.T) {
	full := strings.Repeat("\x00", impl.MaxBlock)
	for _, o := range []impl.Op{
		{Kind: impl.OpCreate}, {Kind: impl.OpCreate, Vol: 3}, {Kind: impl.OpDelete, Vol: 3}, {Kind: impl.OpHold, Vol: 3}, {Kind: impl.OpDrop, Vol: 3},
		{Kind: impl.OpWrite}, {Kind: impl.OpWrite, Vol: 3, At: 3, Text: full}, {Kind: impl.OpDiscard, Vol: 3, At: 3}, {Kind: impl.OpRead, Vol: 3, At: 3},
		{Kind: impl.OpSnap, To: 3}, {Kind: impl.OpSnap, Vol: 3}, {Kind: impl.OpSnap, Vol: 3, To: 2}, {Kind: impl.OpDrain},
		{Kind: impl.OpTake, Vol: 2}, {Kind: impl.OpGive, Vol: 2}, {Kind: impl.OpRecover, Vol: 2},
	} {
		wantOpOk(t, o, true)
	}
	for _, o := range []impl.Op{
		{}, {Kind: 13}, {Kind: -1}, {Kind: 20}, {Kind: 0, Vol: 1},
		{Kind: impl.OpCreate, Vol: 4}, {Kind: impl.OpDelete, Vol: 4}, {Kind: impl.OpHold, Vol: 4}, {Kind: impl.OpDrop, Vol: 4}, {Kind: impl.OpCreate, Vol: -1},
		{Kind: impl.OpWrite, At: 4}, {Kind: impl.OpWrite, At: -1}, {Kind: impl.OpWrite, Vol: 4}, {Kind: impl.OpWrite, Text: full + "a"}, {Kind: impl.OpDiscard, At: 4}, {Kind: impl.OpRead, At: 4},
		{Kind: impl.OpSnap}, {Kind: impl.OpSnap, Vol: 3, To: 3}, {Kind: impl.OpSnap, To: 4}, {Kind: impl.OpSnap, Vol: 4}, {Kind: impl.OpSnap, To: -1},
		{Kind: impl.OpDrain, Vol: 1}, {Kind: impl.OpTake, Vol: 3}, {Kind: impl.OpGive, Vol: 3}, {Kind: impl.OpRecover, Vol: 3}, {Kind: impl.OpTake, Vol: -1},
		{Kind: impl.OpDiscard, Text: "a"}, {Kind: impl.OpRead, Text: "\x00"}, {Kind: impl.OpCreate, At: 1}, {Kind: impl.OpWrite, To: 1},
	} {
		wantOpOk(t, o, false)
	}
}

func TestOpOkAtEachBound(t *testing.T) {
	for _, k := range callKinds() {
		wantOpOk(t, firstCall(k), true)
		for _, number := range []int{-1, math.MinInt, math.MaxInt, 4, 99} {
			for _, set := range []func(o *impl.Op){
				func(o *impl.Op) { o.Vol = number },
				func(o *impl.Op) { o.To = number },
				func(o *impl.Op) { o.At = number },
			} {
				o := firstCall(k)
				set(&o)
				wantOpOk(t, o, false)
			}
		}
		for n := range k.vols {
			o := firstCall(k)
			o.Vol = n
			wantOpOk(t, o, k.kind != impl.OpSnap || n != o.To)
		}
		o := firstCall(k)
		o.Vol = max(k.vols, 1)
		wantOpOk(t, o, false)
		for n := range k.ats {
			o := firstCall(k)
			o.At = n
			wantOpOk(t, o, true)
		}
		for _, n := range []int{1, impl.MaxBlock, impl.MaxBlock + 1, 1000} {
			o := firstCall(k)
			o.Text = strings.Repeat("\xff", n)
			wantOpOk(t, o, n <= k.bytes)
		}
	}
}

func TestOpOkOfWhatAKindDoesNotName(t *testing.T) {
	for _, k := range callKinds() {
		for _, number := range []int{1, 2, 3, -1} {
			o := firstCall(k)
			if o.Vol = number; k.vols == 0 {
				wantOpOk(t, o, false)
			}
			o = firstCall(k)
			if o.To = number; k.tos == 0 {
				wantOpOk(t, o, false)
			}
			o = firstCall(k)
			if o.At = number; k.ats == 0 {
				wantOpOk(t, o, false)
			}
		}
		o := firstCall(k)
		if o.Text = "\x00"; k.bytes == 0 {
			wantOpOk(t, o, false)
		}
	}
}

func plainOpOk(o impl.Op) bool {
	within := func(n int, count int) bool { return n == 0 || n > 0 && n < count }
	for _, k := range callKinds() {
		if k.kind == o.Kind {
			return within(o.Vol, k.vols) && within(o.To, k.tos) && within(o.At, k.ats) && len(o.Text) <= k.bytes && (k.tos == 0 || o.Vol != o.To)
		}
	}
	return false
}

func TestOpOkOfEveryCall(t *testing.T) {
	numbers := []int{-1, 0, 1, 2, 3, 4}
	for _, kind := range []int{math.MinInt, -1, 0, 1, 2, 3, 4, 5, 6, 7, 8, 9, 10, 11, 12, 13, 14, 20, math.MaxInt} {
		for _, vol := range numbers {
			for _, to := range numbers {
				for _, at := range numbers {
					for _, size := range []int{0, 1, impl.MaxBlock, impl.MaxBlock + 1} {
						o := impl.Op{Kind: kind, Vol: vol, To: to, At: at, Text: strings.Repeat("t", size)}
						wantOpOk(t, o, plainOpOk(o))
					}
				}
			}
		}
	}
}

// The leases of the views that follow.
var (
	planMe    = impl.Lease{Host: 1, Epoch: 2}
	planOther = impl.Lease{Host: 0, Epoch: 2}
	planOld   = impl.Lease{Host: 1, Epoch: 1}
	planNo    = impl.Lease{Host: -1}
)

func places(blocks ...int) []int {
	return append(blocks, slices.Repeat([]int{-1}, impl.VBlocks-len(blocks))...)
}

func refs(counts ...int) []int {
	return append(counts, make([]int, impl.GBlocks-len(counts))...)
}

// planView: volumes 0, 1 and 2 are mine, groups 0 and 2 too; volume 1 is not On. Its counts are right.
func planView() impl.View {
	return impl.View{
		Me: planMe,
		Vols: []impl.VolSec{
			{Lease: planMe, On: true, Map: []int{0, 6, -1, 12}},
			{Lease: planMe, Map: places()},
			{Lease: planMe, On: true, Map: []int{1, 1, 0, -1}},
			{Lease: planOther, On: true, Map: []int{-1, 7, 2, 1}},
		},
		Groups: []impl.GroupSec{
			{Lease: planMe, Refs: []int{2, 3, 1, 0, 0, 0}},
			{Lease: planOther, Refs: []int{1, 1, 1, 0, 0, 0}},
			{Lease: planMe, Refs: []int{1, 1, 0, 0, 0, 0}},
		},
		Frees: []int{8, 13},
	}
}

func cloneView(v impl.View) impl.View {
	out := impl.View{Me: v.Me, Vols: slices.Clone(v.Vols), Groups: slices.Clone(v.Groups), Frees: slices.Clone(v.Frees)}
	for i := range out.Vols {
		out.Vols[i].Map = slices.Clone(v.Vols[i].Map)
	}
	for i := range out.Groups {
		out.Groups[i].Refs = slices.Clone(v.Groups[i].Refs)
	}
	return out
}

func viewWith(change func(v *impl.View)) impl.View {
	v := planView()
	change(&v)
	return v
}

func wantView(t *testing.T, what string, v impl.View, want bool) {
	t.Helper()
	if got := impl.ViewOk(v); got != want {
		t.Errorf("%s: ViewOk is %v of %+v", what, got, v)
	}
}

func rightViews() []impl.View {
	out := []impl.View{planView()}
	add := func(change func(v *impl.View)) { out = append(out, viewWith(change)) }
	for _, lease := range rightLeases() {
		if lease.Host >= 0 {
			add(func(v *impl.View) { v.Me = lease })
		}
	}
	for i := range impl.MaxVols {
		for _, vol := range rightVols() {
			add(func(v *impl.View) { v.Vols[i] = vol.(impl.VolSec) })
		}
	}
	for i := range impl.MaxGroups {
		for _, group := range rightGroups() {
			add(func(v *impl.View) { v.Groups[i] = group.(impl.GroupSec) })
		}
	}
	for _, frees := range rightFrees() {
		add(func(v *impl.View) { v.Frees = frees.([]int) })
	}
	add(func(v *impl.View) { v.Frees = []int{} })
	return out
}

type wrongView struct {
	what string
	view impl.View
}

func wrongViews() []wrongView {
	out := []wrongView{{"the zero one", impl.View{}}}
	add := func(what string, change func(v *impl.View)) { out = append(out, wrongView{what, viewWith(change)}) }
	add("Me nobody", func(v *impl.View) { v.Me = planNo })
	for _, lease := range wrongLeases() {
		add("Me not right", func(v *impl.View) { v.Me = lease })
	}
	add("no Vols", func(v *impl.View) { v.Vols = nil })
	add("too few Vols", func(v *impl.View) { v.Vols = v.Vols[:impl.MaxVols-1] })
	add("too many Vols", func(v *impl.View) { v.Vols = append(v.Vols, v.Vols[1]) })
	add("no Groups", func(v *impl.View) { v.Groups = nil })
	add("too few Groups", func(v *impl.View) { v.Groups = v.Groups[:impl.MaxGroups-1] })
	add("too many Groups", func(v *impl.View) { v.Groups = append(v.Groups, v.Groups[0]) })
	for i := range impl.MaxVols {
		for _, wrong := range wrongVols() {
			add("a Vol with "+wrong.what, func(v *impl.View) { v.Vols[i] = wrong.value.(impl.VolSec) })
		}
	}
	for i := range impl.MaxGroups {
		for _, wrong := range wrongGroups() {
			add("a Group with "+wrong.what, func(v *impl.View) { v.Groups[i] = wrong.value.(impl.GroupSec) })
		}
	}
	for _, wrong := range wrongFrees() {
		add("Frees with "+wrong.what, func(v *impl.View) { v.Frees = wrong.value.([]int) })
	}
	return out
}

func TestViewOk(t *testing.T) {
	for _, v := range rightViews() {
		wantView(t, "a right view", v, true)
	}
	for _, wrong := range wrongViews() {
		wantView(t, wrong.what, wrong.view, false)
	}
	wantView(t, "Frees of MaxFrees", viewWith(func(v *impl.View) { v.Frees = make([]int, impl.MaxFrees) }), true)
	wantView(t, "Frees of one more", viewWith(func(v *impl.View) { v.Frees = make([]int, impl.MaxFrees+1) }), false)
}

// roomyView has marked spare room behind each of its lists.
func roomyView(v impl.View) impl.View {
	room := func(list []int) []int { return append(slices.Clone(list), 71, 72, 73, 74, 75)[:len(list)] }
	out := impl.View{Me: v.Me, Frees: room(v.Frees)}
	for _, vol := range v.Vols {
		out.Vols = append(out.Vols, impl.VolSec{Lease: vol.Lease, On: vol.On, Map: room(vol.Map)})
	}
	for _, group := range v.Groups {
		out.Groups = append(out.Groups, impl.GroupSec{Lease: group.Lease, Refs: room(group.Refs)})
	}
	vol := impl.VolSec{Lease: impl.Lease{Host: 70}, On: true, Map: []int{76}}
	group := impl.GroupSec{Lease: impl.Lease{Host: 70}, Refs: []int{77}}
	out.Vols = append(slices.Clone(out.Vols), vol, vol)[:len(v.Vols)]
	out.Groups = append(slices.Clone(out.Groups), group, group)[:len(v.Groups)]
	return out
}

// roomText tells a view with all that stands in the room behind its lists.
func roomText(v impl.View) string {
	var out strings.Builder
	fmt.Fprintln(&out, v.Me, len(v.Vols), len(v.Groups), len(v.Frees), v.Frees[:cap(v.Frees)])
	for _, vol := range v.Vols[:cap(v.Vols)] {
		fmt.Fprintln(&out, vol.Lease, vol.On, len(vol.Map), vol.Map[:cap(vol.Map)])
	}
	for _, group := range v.Groups[:cap(v.Groups)] {
		fmt.Fprintln(&out, group.Lease, len(group.Refs), group.Refs[:cap(group.Refs)])
	}
	return out.String()
}

func samePlan(a impl.Plan, b impl.Plan) bool {
	return a.Code == b.Code && a.Block == b.Block && a.Text == b.Text && slices.Equal(a.Outs, b.Outs)
}

// planOf asks, too, that the view and the room behind it stay, and that two answers share nothing.
func planOf(t *testing.T, v impl.View, o impl.Op) impl.Plan {
	t.Helper()
	room := roomyView(v)
	before := roomText(room)
	first := impl.MakePlan(room, o)
	second := impl.MakePlan(room, o)
	if roomText(room) != before {
		t.Errorf("MakePlan of %+v changed its view, or the room behind it: %s", o, roomText(room))
	}
	kept := first
	kept.Outs = slices.Clone(first.Outs)
	if !samePlan(second, first) {
		t.Errorf("MakePlan of %+v answers %+v and %+v", o, first, second)
	}
	spare := second.Outs[:cap(second.Outs)]
	for i := range spare {
		spare[i] = impl.Out{Sector: -99, Text: "spoiled"}
	}
	if !samePlan(first, kept) || roomText(room) != before {
		t.Errorf("what MakePlan of %+v answers shares memory", o)
	}
	return kept
}

func wantPlan(t *testing.T, what string, v impl.View, o impl.Op, want impl.Plan) {
	t.Helper()
	if got := planOf(t, v, o); !samePlan(got, want) {
		t.Errorf("%s: MakePlan of %+v is %+v, not %+v; the view is %+v", what, o, got, want, v)
	}
}

func wantRefused(t *testing.T, what string, v impl.View, o impl.Op, code int) {
	t.Helper()
	wantPlan(t, what, v, o, impl.Plan{Code: code, Block: -1})
}

// outsBetween tells each sector in which two views differ, by the plain writer.
func outsBetween(before impl.View, after impl.View) []impl.Out {
	var outs []impl.Out
	add := func(sector int, letter string, old any, value any) {
		if !sameSector(old, value) {
			text, _ := plainShow(letter, value)
			outs = append(outs, impl.Out{Sector: sector, Text: text})
		}
	}
	add(6+before.Me.Host, "f", before.Frees, after.Frees)
	for i := range before.Vols {
		add(9+i, "v", before.Vols[i], after.Vols[i])
	}
	for i := range before.Groups {
		add(13+i, "g", before.Groups[i], after.Groups[i])
	}
	return outs
}

// wantChange asks for a plan that makes of the view what change makes of it, in just these sectors.
func wantChange(t *testing.T, what string, v impl.View, o impl.Op, block int, sectors []int, change func(v *impl.View)) {
	t.Helper()
	after := cloneView(v)
	change(&after)
	want := impl.Plan{Code: impl.PlOk, Block: block, Text: o.Text, Outs: outsBetween(v, after)}
	wantPlan(t, what, v, o, want)
	var told []int
	for _, out := range want.Outs {
		told = append(told, out.Sector)
	}
	if !slices.Equal(told, sectors) {
		t.Errorf("%s: the sectors are %v, not %v", what, told, sectors)
	}
}

func TestWrongViewsAndCallsArePlBad(t *testing.T) {
	for _, k := range callKinds() {
		for _, wrong := range wrongViews() {
			wantRefused(t, wrong.what, wrong.view, firstCall(k), impl.PlBad)
		}
		if k.kind > impl.OpRead {
			for vol := range k.vols {
				wantRefused(t, "a kind above OpRead", planView(), impl.Op{Kind: k.kind, Vol: vol}, impl.PlBad)
			}
		} else if code := impl.MakePlan(planView(), firstCall(k)).Code; code == impl.PlBad {
			t.Errorf("the least call of kind %d is PlBad", k.kind)
		}
	}
	long := strings.Repeat("t", impl.MaxBlock+1)
	for _, o := range []impl.Op{
		{}, {Kind: -1}, {Kind: 13}, {Kind: math.MinInt}, {Kind: math.MaxInt},
		{Kind: impl.OpCreate, Vol: -1}, {Kind: impl.OpCreate, Vol: 4}, {Kind: impl.OpCreate, Vol: 1, At: 1}, {Kind: impl.OpCreate, Vol: 1, Text: "a"},
		{Kind: impl.OpDelete, Vol: 4}, {Kind: impl.OpDelete, To: 1}, {Kind: impl.OpDelete, At: 1},
		{Kind: impl.OpWrite, Vol: 4}, {Kind: impl.OpWrite, At: 4}, {Kind: impl.OpWrite, At: -1}, {Kind: impl.OpWrite, To: 1}, {Kind: impl.OpWrite, Text: long},
		{Kind: impl.OpDiscard, At: 4}, {Kind: impl.OpDiscard, At: -1}, {Kind: impl.OpDiscard, Text: "a"},
		{Kind: impl.OpSnap}, {Kind: impl.OpSnap, To: 4}, {Kind: impl.OpSnap, To: -1}, {Kind: impl.OpSnap, To: 1, At: 1}, {Kind: impl.OpSnap, To: 1, Text: "a"},
		{Kind: impl.OpDrain, Vol: 1}, {Kind: impl.OpDrain, To: 1}, {Kind: impl.OpDrain, At: 1}, {Kind: impl.OpDrain, Text: "a"},
		{Kind: impl.OpRead, At: 4}, {Kind: impl.OpRead, At: math.MaxInt}, {Kind: impl.OpRead, Vol: math.MinInt}, {Kind: impl.OpRead, Text: "a"},
	} {
		wantRefused(t, "a call that is not OpOk", planView(), o, impl.PlBad)
	}
}

// volCalls are the calls of a volume, one of each kind that has one.
func volCalls(vol int) []impl.Op {
	return []impl.Op{
		{Kind: impl.OpCreate, Vol: vol},
		{Kind: impl.OpDelete, Vol: vol},
		{Kind: impl.OpWrite, Vol: vol, At: 1, Text: "w"},
		{Kind: impl.OpDiscard, Vol: vol, At: 1},
		{Kind: impl.OpSnap, Vol: vol, To: (vol + 1) % impl.MaxVols},
		{Kind: impl.OpRead, Vol: vol, At: 1},
	}
}

func notMine() []impl.Lease {
	return []impl.Lease{planNo, planOther, planOld, {Host: 1, Epoch: 3}, {Host: 2, Epoch: 2}, {Host: 0, Epoch: 1}}
}

func TestPlansOfVolumesThatAreNotMine(t *testing.T) {
	for vol := range impl.MaxVols {
		for _, lease := range notMine() {
			for _, on := range []bool{false, true} {
				v := viewWith(func(v *impl.View) { v.Vols[vol] = impl.VolSec{Lease: lease, On: on, Map: places()} })
				for _, o := range volCalls(vol) {
					wantRefused(t, "Vol is not mine", v, o, impl.PlNotMine)
				}
			}
		}
	}
}

func TestPlansAskForTheVolumeFirst(t *testing.T) {
	v := viewWith(func(v *impl.View) {
		v.Vols[0].Lease = planOther
		for i := range v.Groups {
			v.Groups[i].Lease = planNo
		}
		v.Frees = make([]int, impl.MaxFrees)
	})
	for _, o := range volCalls(0) {
		wantRefused(t, "neither the volume nor a group is mine", v, o, impl.PlNotMine)
	}
	for _, o := range volCalls(1)[1:] {
		wantRefused(t, "not On, and no group is mine", v, o, impl.PlNone)
	}
	wantRefused(t, "no space ahead of full", v, impl.Op{Kind: impl.OpWrite, Vol: 2}, impl.PlNoSpace)
	wantRefused(t, "not On ahead of a To that is not mine", v, impl.Op{Kind: impl.OpSnap, Vol: 1, To: 3}, impl.PlNone)
	wantRefused(t, "To is not mine ahead of On", v, impl.Op{Kind: impl.OpSnap, Vol: 2, To: 3}, impl.PlNotMine)
	v.Vols[3].Lease = planMe
	wantRefused(t, "To is On ahead of busy", v, impl.Op{Kind: impl.OpSnap, Vol: 2, To: 3}, impl.PlNone)
	wantRefused(t, "busy", v, impl.Op{Kind: impl.OpSnap, Vol: 2, To: 1}, impl.PlBusy)
}

func TestPlansOfVolumesThatAreOnOrNot(t *testing.T) {
	for vol := range impl.MaxVols {
		off := viewWith(func(v *impl.View) { v.Vols[vol] = impl.VolSec{Lease: planMe, Map: places()} })
		for _, o := range volCalls(vol)[1:] {
			wantRefused(t, "not On", off, o, impl.PlNone)
		}
		wantChange(t, "create", off, volCalls(vol)[0], -1, []int{9 + vol}, func(v *impl.View) { v.Vols[vol].On = true })
		on := viewWith(func(v *impl.View) { v.Vols[vol] = impl.VolSec{Lease: planMe, On: true, Map: places()} })
		wantRefused(t, "On", on, volCalls(vol)[0], impl.PlNone)
	}
	wantRefused(t, "On with blocks", planView(), impl.Op{Kind: impl.OpCreate}, impl.PlNone)
}

func TestPlanOfRead(t *testing.T) {
	for vol, v := range planView().Vols {
		for at, block := range v.Map {
			if vol == 0 || vol == 2 {
				wantPlan(t, "read", planView(), impl.Op{Kind: impl.OpRead, Vol: vol, At: at}, impl.Plan{Block: block})
			}
		}
	}
	alone := viewWith(func(v *impl.View) {
		for i := range v.Groups {
			v.Groups[i].Lease = planNo
		}
		v.Frees = slices.Repeat([]int{17}, impl.MaxFrees)
		v.Vols[0].Map[2] = 17
	})
	wantPlan(t, "read without a group", alone, impl.Op{Kind: impl.OpRead, At: 2}, impl.Plan{Block: 17})
}

func TestPlanOfWrite(t *testing.T) {
	full := strings.Repeat("\xff", impl.MaxBlock)
	wantChange(t, "where nothing is", planView(), impl.Op{Kind: impl.OpWrite, At: 2, Text: full}, 3, []int{9, 13}, func(v *impl.View) {
		v.Vols[0].Map[2] = 3
		v.Groups[0].Refs[3] = 1
	})
	wantChange(t, "a text without bytes", planView(), impl.Op{Kind: impl.OpWrite, At: 2}, 3, []int{9, 13}, func(v *impl.View) {
		v.Vols[0].Map[2] = 3
		v.Groups[0].Refs[3] = 1
	})
	wantChange(t, "over a shared block", planView(), impl.Op{Kind: impl.OpWrite, At: 0, Text: "w"}, 3, []int{9, 13}, func(v *impl.View) {
		v.Vols[0].Map[0] = 3
		v.Groups[0].Refs = []int{1, 3, 1, 1, 0, 0}
	})
	wantChange(t, "over a block of another group of mine", planView(), impl.Op{Kind: impl.OpWrite, At: 3, Text: "w"}, 3, []int{9, 13, 15}, func(v *impl.View) {
		v.Vols[0].Map[3] = 3
		v.Groups[0].Refs[3] = 1
		v.Groups[2].Refs[0] = 0
	})
	wantChange(t, "over a block of a group that is not mine", planView(), impl.Op{Kind: impl.OpWrite, At: 1, Text: "w"}, 3, []int{7, 9, 13}, func(v *impl.View) {
		v.Frees = []int{8, 13, 6}
		v.Vols[0].Map[1] = 3
		v.Groups[0].Refs[3] = 1
	})
	wantChange(t, "over a block that is twice in the Map", planView(), impl.Op{Kind: impl.OpWrite, Vol: 2, At: 1, Text: "w"}, 3, []int{11, 13}, func(v *impl.View) {
		v.Vols[2].Map[1] = 3
		v.Groups[0].Refs = []int{2, 2, 1, 1, 0, 0}
	})
}

// wantFound asks which block a write takes where nothing is.
func wantFound(t *testing.T, what string, v impl.View, block int) {
	t.Helper()
	v = cloneView(v)
	v.Vols[0] = impl.VolSec{Lease: planMe, On: true, Map: places()}
	group := block / impl.GBlocks
	wantChange(t, what, v, impl.Op{Kind: impl.OpWrite, At: 3, Text: "w"}, block, []int{9, 13 + group}, func(v *impl.View) {
		v.Vols[0].Map[3] = block
		v.Groups[group].Refs[block%impl.GBlocks] = 1
	})
}

func TestWriteTakesTheFirstFreeBlock(t *testing.T) {
	held := slices.Repeat([]int{1}, impl.GBlocks)
	for block := range impl.Blocks {
		v := viewWith(func(v *impl.View) {
			for i := range v.Groups {
				v.Groups[i] = impl.GroupSec{Lease: planMe, Refs: slices.Clone(held)}
			}
			v.Groups[block/impl.GBlocks].Refs[block%impl.GBlocks] = 0
		})
		wantFound(t, "the only one", v, block)
		for later := block + 1; later < impl.Blocks; later++ {
			v.Groups[later/impl.GBlocks].Refs[later%impl.GBlocks] = 0
			wantFound(t, "the first of several", v, block)
		}
		for _, lease := range notMine() {
			other := cloneView(v)
			for i := range block / impl.GBlocks {
				other.Groups[i] = impl.GroupSec{Lease: lease, Refs: refs()}
			}
			wantFound(t, "free blocks of groups that are not mine ahead of it", other, block)
		}
	}
}

func TestWriteWithoutSpace(t *testing.T) {
	for _, lease := range notMine() {
		v := viewWith(func(v *impl.View) {
			for i := range v.Groups {
				v.Groups[i] = impl.GroupSec{Lease: lease, Refs: refs()}
			}
		})
		for at := range impl.VBlocks {
			wantRefused(t, "no group is mine", v, impl.Op{Kind: impl.OpWrite, At: at, Text: "w"}, impl.PlNoSpace)
		}
		v.Groups[0] = impl.GroupSec{Lease: planMe, Refs: []int{1, 2, 16, 1, 1, 1}}
		wantRefused(t, "every Ref of mine above 0", v, impl.Op{Kind: impl.OpWrite, At: 2, Text: "w"}, impl.PlNoSpace)
		wantRefused(t, "the block that is let go of is not taken", v, impl.Op{Kind: impl.OpWrite, At: 0, Text: "w"}, impl.PlNoSpace)
	}
}

// A count below what is held is not right, but the view is: the words are followed one by one.
func TestWriteOverABlockWithoutACount(t *testing.T) {
	v := viewWith(func(v *impl.View) { v.Groups[0].Refs = refs() })
	wantPlan(t, "the block is its own", v, impl.Op{Kind: impl.OpWrite, At: 0, Text: "w"}, impl.Plan{Block: 0, Text: "w"})
	v = viewWith(func(v *impl.View) { v.Groups[2].Refs = refs() })
	wantChange(t, "a count that is 0 stays", v, impl.Op{Kind: impl.OpWrite, At: 3, Text: "w"}, 3, []int{9, 13}, func(v *impl.View) {
		v.Vols[0].Map[3] = 3
		v.Groups[0].Refs[3] = 1
	})
}

func TestPlanOfDiscard(t *testing.T) {
	discard := func(vol int, at int) impl.Op { return impl.Op{Kind: impl.OpDiscard, Vol: vol, At: at} }
	wantChange(t, "a shared block", planView(), discard(0, 0), -1, []int{9, 13}, func(v *impl.View) {
		v.Vols[0].Map[0] = -1
		v.Groups[0].Refs[0] = 1
	})
	wantChange(t, "the last holder", planView(), discard(0, 3), -1, []int{9, 15}, func(v *impl.View) {
		v.Vols[0].Map[3] = -1
		v.Groups[2].Refs[0] = 0
	})
	wantChange(t, "a group that is not mine", planView(), discard(0, 1), -1, []int{7, 9}, func(v *impl.View) {
		v.Vols[0].Map[1] = -1
		v.Frees = []int{8, 13, 6}
	})
	wantChange(t, "nothing there", planView(), discard(0, 2), -1, nil, func(v *impl.View) {})
	wantChange(t, "twice in the Map", planView(), discard(2, 0), -1, []int{11, 13}, func(v *impl.View) {
		v.Vols[2].Map[0] = -1
		v.Groups[0].Refs[1] = 2
	})
	zero := viewWith(func(v *impl.View) { v.Groups[0].Refs[0] = 0 })
	wantChange(t, "a count that is 0 stays", zero, discard(0, 0), -1, []int{9}, func(v *impl.View) { v.Vols[0].Map[0] = -1 })
	for _, lease := range notMine() {
		v := viewWith(func(v *impl.View) { v.Groups[0].Lease = lease })
		wantChange(t, "a group of another lease", v, discard(0, 0), -1, []int{7, 9}, func(v *impl.View) {
			v.Vols[0].Map[0] = -1
			v.Frees = []int{8, 13, 0}
		})
	}
}

func TestPlansOnTheListOfTheirHost(t *testing.T) {
	for host := range impl.MaxHosts {
		v := planView()
		v.Me = impl.Lease{Host: host, Epoch: 9}
		v.Vols[0].Lease = v.Me
		v.Frees = nil
		wantChange(t, "the list is the host's own", v, impl.Op{Kind: impl.OpDiscard, At: 0}, -1, []int{6 + host, 9}, func(v *impl.View) {
			v.Vols[0].Map[0] = -1
			v.Frees = []int{0}
		})
	}
}

// freesOf is planView with that many blocks freed; three places of volume 0 and group 1 are of use for more.
func freesOf(n int) impl.View {
	return viewWith(func(v *impl.View) {
		v.Frees = slices.Repeat([]int{9}, n)
		v.Vols[0].Map = []int{6, 12, 7, 6}
	})
}

func TestPlansThatFillTheFrees(t *testing.T) {
	full, last := freesOf(impl.MaxFrees), freesOf(impl.MaxFrees-1)
	write := impl.Op{Kind: impl.OpWrite, At: 2, Text: "w"}
	discard := impl.Op{Kind: impl.OpDiscard, At: 2}
	remove := impl.Op{Kind: impl.OpDelete}
	freed := func(blocks ...int) func(v *impl.View) {
		return func(v *impl.View) { v.Frees = append(v.Frees, blocks...) }
	}
	wantChange(t, "write to MaxFrees", last, write, 3, []int{7, 9, 13}, func(v *impl.View) {
		freed(7)(v)
		v.Vols[0].Map[2] = 3
		v.Groups[0].Refs[3] = 1
	})
	wantChange(t, "discard to MaxFrees", last, discard, -1, []int{7, 9}, func(v *impl.View) {
		freed(7)(v)
		v.Vols[0].Map[2] = -1
	})
	wantRefused(t, "write above MaxFrees", full, write, impl.PlFull)
	wantRefused(t, "discard above MaxFrees", full, discard, impl.PlFull)
	wantChange(t, "delete to MaxFrees", freesOf(impl.MaxFrees-3), remove, -1, []int{7, 9, 15}, func(v *impl.View) {
		freed(6, 7, 6)(v)
		v.Vols[0].On, v.Vols[0].Map = false, places()
		v.Groups[2].Refs[0] = 0
	})
	for n := impl.MaxFrees - 2; n <= impl.MaxFrees; n++ {
		wantRefused(t, "delete above MaxFrees", freesOf(n), remove, impl.PlFull)
	}
	wantChange(t, "full, but the group is mine", full, impl.Op{Kind: impl.OpDiscard, At: 1}, -1, []int{9, 15}, func(v *impl.View) {
		v.Vols[0].Map[1] = -1
		v.Groups[2].Refs[0] = 0
	})
	wantChange(t, "full, but each group is mine", full, impl.Op{Kind: impl.OpDelete, Vol: 2}, -1, []int{11, 13}, func(v *impl.View) {
		v.Vols[2].On, v.Vols[2].Map = false, places()
		v.Groups[0].Refs = []int{1, 1, 1, 0, 0, 0}
	})
	full.Vols[0].Map[2] = -1
	wantChange(t, "full, but nothing is there", full, discard, -1, nil, func(v *impl.View) {})
	wantChange(t, "full, but nothing is written over", full, write, 3, []int{9, 13}, func(v *impl.View) {
		v.Vols[0].Map[2] = 3
		v.Groups[0].Refs[3] = 1
	})
}

func TestPlanOfDelete(t *testing.T) {
	remove := func(vol int) impl.Op { return impl.Op{Kind: impl.OpDelete, Vol: vol} }
	off := func(v *impl.View, vol int) { v.Vols[vol].On, v.Vols[vol].Map = false, places() }
	wantChange(t, "blocks of groups that are mine and not", planView(), remove(0), -1, []int{7, 9, 13, 15}, func(v *impl.View) {
		off(v, 0)
		v.Frees = []int{8, 13, 6}
		v.Groups[0].Refs[0] = 1
		v.Groups[2].Refs[0] = 0
	})
	wantChange(t, "a block twice, of a group that is mine", planView(), remove(2), -1, []int{11, 13}, func(v *impl.View) {
		off(v, 2)
		v.Groups[0].Refs = []int{1, 1, 1, 0, 0, 0}
	})
	v := planView()
	v.Vols[3] = impl.VolSec{Lease: planMe, On: true, Map: []int{7, 5, 7, 6}}
	v.Groups[0].Refs[5] = 1
	wantChange(t, "a block twice, of a group that is not mine, in order", v, remove(3), -1, []int{7, 12, 13}, func(v *impl.View) {
		off(v, 3)
		v.Frees = []int{8, 13, 7, 7, 6}
		v.Groups[0].Refs[5] = 0
	})
	v = viewWith(func(v *impl.View) { v.Groups[0].Refs = []int{0, 1, 0, 0, 0, 0} })
	wantChange(t, "counts that come to 0 stay", v, remove(2), -1, []int{11, 13}, func(v *impl.View) {
		off(v, 2)
		v.Groups[0].Refs[1] = 0
	})
	v = viewWith(func(v *impl.View) { v.Vols[0].Map = places() })
	wantChange(t, "without a block", v, remove(0), -1, []int{9}, func(v *impl.View) { off(v, 0) })
}

func TestPlanOfSnap(t *testing.T) {
	snap := func(vol int, to int) impl.Op { return impl.Op{Kind: impl.OpSnap, Vol: vol, To: to} }
	for _, lease := range notMine() {
		v := viewWith(func(v *impl.View) { v.Vols[1].Lease = lease })
		wantRefused(t, "To is not mine", v, snap(2, 1), impl.PlNotMine)
		v = viewWith(func(v *impl.View) { v.Vols[2].Lease = lease })
		wantRefused(t, "To is not mine, and On", v, snap(0, 2), impl.PlNotMine)
		v = viewWith(func(v *impl.View) { v.Groups[0].Lease = lease })
		wantRefused(t, "the group of a block is not mine", v, snap(2, 1), impl.PlBusy)
		v.Groups[1].Lease = planMe
		wantRefused(t, "the group of the first block is not mine", v, snap(0, 1), impl.PlBusy)
		v = viewWith(func(v *impl.View) { v.Groups[1].Lease, v.Groups[2].Lease = planMe, lease })
		wantRefused(t, "the group of the last block is not mine", v, snap(0, 1), impl.PlBusy)
		v = viewWith(func(v *impl.View) { v.Groups[1].Lease, v.Groups[2].Lease = lease, lease })
		wantChange(t, "the groups that count are mine", v, snap(2, 1), -1, []int{10, 13}, func(v *impl.View) {
			v.Vols[1].On, v.Vols[1].Map = true, []int{1, 1, 0, -1}
			v.Groups[0].Refs = []int{3, 5, 1, 0, 0, 0}
		})
	}
	wantRefused(t, "To is On", planView(), snap(0, 2), impl.PlNone)
	wantRefused(t, "a group is not mine", planView(), snap(0, 1), impl.PlBusy)
	v := viewWith(func(v *impl.View) { v.Groups[1].Lease = planMe })
	wantChange(t, "three groups", v, snap(0, 1), -1, []int{10, 13, 14, 15}, func(v *impl.View) {
		v.Vols[1].On, v.Vols[1].Map = true, []int{0, 6, -1, 12}
		v.Groups[0].Refs[0], v.Groups[1].Refs[0], v.Groups[2].Refs[0] = 3, 2, 2
	})
	v = viewWith(func(v *impl.View) {
		v.Vols[2].Map = places()
		for i := range v.Groups {
			v.Groups[i].Lease = planNo
		}
	})
	wantChange(t, "without a block no group is asked for", v, snap(2, 1), -1, []int{10}, func(v *impl.View) { v.Vols[1].On = true })
	v = viewWith(func(v *impl.View) { v.Vols[3] = impl.VolSec{Lease: planMe, Map: places()} })
	wantChange(t, "to a volume behind it", v, snap(2, 3), -1, []int{12, 13}, func(v *impl.View) {
		v.Vols[3].On, v.Vols[3].Map = true, []int{1, 1, 0, -1}
		v.Groups[0].Refs = []int{3, 5, 1, 0, 0, 0}
	})
}

func TestSnapToTheHighestCount(t *testing.T) {
	snap := impl.Op{Kind: impl.OpSnap, Vol: 2, To: 1}
	for times := 1; times <= impl.VBlocks; times++ {
		for count := impl.MaxRef - 5; count <= impl.MaxRef; count++ {
			v := viewWith(func(v *impl.View) {
				v.Vols[2].Map = places(slices.Repeat([]int{5}, times)...)
				v.Groups[0].Refs[5] = count
			})
			if count+times > impl.MaxRef {
				wantRefused(t, "a Ref above MaxRef", v, snap, impl.PlFull)
				continue
			}
			wantChange(t, "a Ref up to MaxRef", v, snap, -1, []int{10, 13}, func(v *impl.View) {
				v.Vols[1].On, v.Vols[1].Map = true, v.Vols[2].Map
				v.Groups[0].Refs[5] = count + times
			})
		}
	}
	v := viewWith(func(v *impl.View) {
		v.Vols[2].Map = []int{12, -1, 3, 6}
		v.Groups[0].Refs[3] = impl.MaxRef
	})
	wantRefused(t, "busy ahead of full", v, snap, impl.PlBusy)
	v.Groups[1].Lease = planMe
	wantRefused(t, "full behind one that is not", v, snap, impl.PlFull)
	v = viewWith(func(v *impl.View) { v.Frees, v.Groups[0].Refs[2] = make([]int, impl.MaxFrees), impl.MaxRef })
	wantChange(t, "what the Map does not hold may be full", v, snap, -1, []int{10, 13}, func(v *impl.View) {
		v.Vols[1].On, v.Vols[1].Map = true, v.Vols[2].Map
		v.Groups[0].Refs[0], v.Groups[0].Refs[1] = 3, 5
	})
}

func TestPlanOfDrain(t *testing.T) {
	drain := impl.Op{Kind: impl.OpDrain}
	wantChange(t, "of groups that are mine and not", planView(), drain, -1, []int{7, 15}, func(v *impl.View) {
		v.Frees = []int{8}
		v.Groups[2].Refs[1] = 0
	})
	v := viewWith(func(v *impl.View) {
		v.Frees = []int{9, 2, 17, 7, 2, 9, 13, 2}
		v.Groups[0].Refs[2] = 3
		v.Groups[2].Refs[5] = 2
	})
	wantChange(t, "one block more than once", v, drain, -1, []int{7, 13, 15}, func(v *impl.View) {
		v.Frees = []int{9, 7, 9}
		v.Groups[0].Refs[2] = 0
		v.Groups[2].Refs = []int{1, 0, 0, 0, 0, 1}
	})
	v.Groups[0].Refs[2] = 2
	wantChange(t, "more often than it counts", v, drain, -1, []int{7, 13, 15}, func(v *impl.View) {
		v.Frees = []int{9, 7, 9}
		v.Groups[0].Refs[2] = 0
		v.Groups[2].Refs = []int{1, 0, 0, 0, 0, 1}
	})
	v = viewWith(func(v *impl.View) { v.Frees = []int{5, 6} })
	wantChange(t, "a count that is 0 stays", v, drain, -1, []int{7}, func(v *impl.View) { v.Frees = []int{6} })
	v = viewWith(func(v *impl.View) { v.Frees = slices.Repeat([]int{7}, impl.MaxFrees) })
	wantChange(t, "none is mine", v, drain, -1, nil, func(v *impl.View) {})
	wantChange(t, "none is freed", viewWith(func(v *impl.View) { v.Frees = nil }), drain, -1, nil, func(v *impl.View) {})
	for _, lease := range notMine() {
		v := viewWith(func(v *impl.View) {
			for i := range v.Vols {
				v.Vols[i].Lease = lease
			}
			v.Groups[0].Lease = lease
			v.Frees = []int{0, 12, 1}
		})
		wantChange(t, "no volume is asked for", v, drain, -1, []int{7, 15}, func(v *impl.View) {
			v.Frees = []int{0, 1}
			v.Groups[2].Refs[0] = 0
		})
	}
}

// Lists that stand in one another's memory are as good as lists that do not.
func TestPlansOfViewsThatShareMemory(t *testing.T) {
	numbers := []int{0, 1, 2, 3, 4, 5, 6}
	counts := []int{1, 1, 1, 1, 1, 0, 0}
	v := impl.View{Me: planMe, Frees: numbers}
	for range impl.MaxVols {
		v.Vols = append(v.Vols, impl.VolSec{Lease: planMe, On: true, Map: numbers[:impl.VBlocks]})
	}
	for range impl.MaxGroups {
		v.Groups = append(v.Groups, impl.GroupSec{Lease: planMe, Refs: counts[:impl.GBlocks]})
	}
	apart := cloneView(v)
	for kind := impl.OpCreate; kind <= impl.OpRead; kind++ {
		for _, o := range someOps(kind) {
			if got, want := impl.MakePlan(v, o), impl.MakePlan(apart, o); !samePlan(got, want) {
				t.Errorf("MakePlan of %+v is %+v where lists share memory, else %+v", o, got, want)
			}
		}
	}
	if !slices.Equal(numbers, []int{0, 1, 2, 3, 4, 5, 6}) || !slices.Equal(counts, []int{1, 1, 1, 1, 1, 0, 0}) {
		t.Error("MakePlan changed its view", numbers, counts)
	}
}

// someOps are all right calls of a kind, but for their texts.
func someOps(kind int) []impl.Op {
	var out []impl.Op
	for vol := range impl.MaxVols {
		for to := range impl.MaxVols {
			for at := range impl.VBlocks {
				o := impl.Op{Kind: kind, Vol: vol, To: to, At: at}
				if kind == impl.OpWrite {
					o.Text = strings.Repeat("x", at*5)
				}
				if plainOpOk(o) {
					out = append(out, o)
				}
			}
		}
	}
	return out
}

// flatPlan is the chapter's words once more, on one flat list of all blocks.
type flatPlan struct {
	mine   [impl.Blocks]bool
	counts [impl.Blocks]int
	frees  []int
}

func flatOf(v impl.View) *flatPlan {
	f := &flatPlan{frees: slices.Clone(v.Frees)}
	for b := range impl.Blocks {
		f.mine[b] = v.Groups[b/6].Lease == v.Me
		f.counts[b] = v.Groups[b/6].Refs[b%6]
	}
	return f
}

func (f *flatPlan) letGo(block int) {
	if block == -1 {
		return
	}
	if !f.mine[block] {
		f.frees = append(f.frees, block)
	} else if f.counts[block] > 0 {
		f.counts[block]--
	}
}

func (f *flatPlan) write(vol *impl.VolSec, o impl.Op) (int, int) {
	for b := range impl.Blocks {
		if f.mine[b] && f.counts[b] == 0 {
			f.counts[b] = 1
			f.letGo(vol.Map[o.At])
			vol.Map[o.At] = b
			return impl.PlOk, b
		}
	}
	return impl.PlNoSpace, -1
}

func (f *flatPlan) snap(v impl.View, o impl.Op) int {
	from, to := v.Vols[o.Vol], &v.Vols[o.To]
	if to.Lease != v.Me {
		return impl.PlNotMine
	}
	if to.On {
		return impl.PlNone
	}
	code := impl.PlOk
	for _, block := range from.Map {
		switch {
		case block == -1:
		case !f.mine[block]:
			return impl.PlBusy
		default:
			if f.counts[block]++; f.counts[block] > 16 {
				code = impl.PlFull
			}
		}
	}
	to.On, to.Map = true, slices.Clone(from.Map)
	return code
}

func (f *flatPlan) do(v impl.View, o impl.Op) (int, int) {
	vol := &v.Vols[o.Vol]
	switch {
	case o.Kind == impl.OpDrain:
		freed := f.frees
		f.frees = nil
		for _, block := range freed {
			f.letGo(block)
		}
		return impl.PlOk, -1
	case vol.Lease != v.Me:
		return impl.PlNotMine, -1
	case o.Kind == impl.OpCreate && vol.On, o.Kind != impl.OpCreate && !vol.On:
		return impl.PlNone, -1
	}
	switch o.Kind {
	case impl.OpCreate:
		vol.On = true
	case impl.OpRead:
		return impl.PlOk, vol.Map[o.At]
	case impl.OpWrite:
		return f.write(vol, o)
	case impl.OpDiscard:
		f.letGo(vol.Map[o.At])
		vol.Map[o.At] = -1
	case impl.OpDelete:
		for at := range vol.Map {
			f.letGo(vol.Map[at])
		}
		vol.On, vol.Map = false, places()
	case impl.OpSnap:
		return f.snap(v, o), -1
	}
	return impl.PlOk, -1
}

// plainPlan is what MakePlan should say of a right view and a right call.
func plainPlan(v impl.View, o impl.Op) impl.Plan {
	after := cloneView(v)
	f := flatOf(v)
	code, block := f.do(after, o)
	if code == impl.PlOk && len(f.frees) > 12 {
		code = impl.PlFull
	}
	if code != impl.PlOk {
		return impl.Plan{Code: code, Block: -1}
	}
	after.Frees = f.frees
	for b := range impl.Blocks {
		after.Groups[b/6].Refs[b%6] = f.counts[b]
	}
	return impl.Plan{Block: block, Text: o.Text, Outs: outsBetween(v, after)}
}

// planLease is mine more often than not.
func planLease(r *rand.Rand, me impl.Lease) impl.Lease {
	if r.Intn(4) > 0 {
		return me
	}
	return []impl.Lease{planNo, {Host: me.Host, Epoch: me.Epoch + 1}, {Host: (me.Host + 1) % impl.MaxHosts, Epoch: me.Epoch}, randomLease(r)}[r.Intn(4)]
}

// randomView may be any right view: its counts need not be right.
func randomView(r *rand.Rand) impl.View {
	me := impl.Lease{Host: r.Intn(impl.MaxHosts), Epoch: 1 + r.Intn(300)}
	v := impl.View{Me: me}
	for range impl.MaxVols {
		vol := impl.VolSec{Lease: planLease(r, me), On: r.Intn(3) > 0, Map: places()}
		if vol.On {
			vol.Map = randomNumbers(r, impl.VBlocks, -1, impl.Blocks-1)
			if r.Intn(4) == 0 {
				vol.Map[r.Intn(impl.VBlocks)] = vol.Map[r.Intn(impl.VBlocks)]
			}
		}
		v.Vols = append(v.Vols, vol)
	}
	for range impl.MaxGroups {
		low := r.Intn(2) * r.Intn(impl.MaxRef+1)
		counts := randomNumbers(r, impl.GBlocks, low, min(low+1+r.Intn(3), impl.MaxRef))
		v.Groups = append(v.Groups, impl.GroupSec{Lease: planLease(r, me), Refs: counts})
	}
	v.Frees = randomNumbers(r, []int{0, 2, 8, 10, 11, 12}[r.Intn(6)], 0, impl.Blocks-1)
	return v
}

func TestManyPlansAsSaid(t *testing.T) {
	r := rand.New(rand.NewSource(5))
	met := map[[2]int]int{}
	for range 3000 {
		v := randomView(r)
		kind := 1 + r.Intn(impl.OpRead)
		ops := someOps(kind)
		for range 3 {
			o := ops[r.Intn(len(ops))]
			want := plainPlan(v, o)
			wantPlan(t, "a random view", v, o, want)
			met[[2]int{kind, want.Code}]++
		}
	}
	wantMet(t, met)
}

// wantMet asks that each code that a kind of call can have was seen often.
func wantMet(t *testing.T, met map[[2]int]int) {
	t.Helper()
	for kind, codes := range map[int][]int{
		impl.OpCreate:  {impl.PlOk, impl.PlNotMine, impl.PlNone},
		impl.OpDelete:  {impl.PlOk, impl.PlNotMine, impl.PlNone, impl.PlFull},
		impl.OpWrite:   {impl.PlOk, impl.PlNotMine, impl.PlNone, impl.PlNoSpace, impl.PlFull},
		impl.OpDiscard: {impl.PlOk, impl.PlNotMine, impl.PlNone, impl.PlFull},
		impl.OpSnap:    {impl.PlOk, impl.PlNotMine, impl.PlNone, impl.PlBusy, impl.PlFull},
		impl.OpDrain:   {impl.PlOk},
		impl.OpRead:    {impl.PlOk, impl.PlNotMine, impl.PlNone},
	} {
		for _, code := range codes {
			if met[[2]int{kind, code}] < 10 {
				t.Errorf("kind %d was answered %d just %d times", kind, code, met[[2]int{kind, code}])
			}
		}
	}
}

// planPool is settled sectors, read: what stands on the disk where no journal is under way.
type planPool struct {
	vols   []impl.VolSec
	groups []impl.GroupSec
	frees  [][]int
	blocks []string
}

// held is how often a block is in Maps and in lists of freed blocks.
func (p *planPool) held(block int) int {
	n := 0
	for _, vol := range p.vols {
		for _, b := range vol.Map {
			if b == block {
				n++
			}
		}
	}
	for _, list := range p.frees {
		for _, b := range list {
			if b == block {
				n++
			}
		}
	}
	return n
}

func (p *planPool) countsAreRight() bool {
	for b := range impl.Blocks {
		if p.groups[b/impl.GBlocks].Refs[b%impl.GBlocks] != p.held(b) {
			return false
		}
	}
	return true
}

// tells is each volume as its readers see it: whether it is on, and each place with what stands there.
func (p *planPool) tells() [impl.MaxVols]string {
	var out [impl.MaxVols]string
	for i, vol := range p.vols {
		out[i] = fmt.Sprint(vol.On)
		for _, b := range vol.Map {
			if b < 0 {
				out[i] += " -"
			} else {
				out[i] += fmt.Sprintf(" =%x", p.blocks[b])
			}
		}
	}
	return out
}

// should is what the call makes of what the volumes tell, and whether it can be done.
func should(told [impl.MaxVols]string, o impl.Op) ([impl.MaxVols]string, bool) {
	on := strings.HasPrefix(told[o.Vol], "true")
	words := strings.Split(told[o.Vol], " ")
	switch {
	case o.Kind == impl.OpDrain:
		return told, true
	case o.Kind == impl.OpCreate && !on:
		told[o.Vol] = "true - - - -"
		return told, true
	case o.Kind == impl.OpDelete && on:
		told[o.Vol] = "false - - - -"
		return told, true
	case o.Kind == impl.OpWrite && on:
		words[1+o.At] = fmt.Sprintf("=%x", o.Text)
	case o.Kind == impl.OpDiscard && on:
		words[1+o.At] = "-"
	case o.Kind == impl.OpSnap && on && strings.HasPrefix(told[o.To], "false"):
		told[o.To] = told[o.Vol]
		return told, true
	default:
		return told, false
	}
	told[o.Vol] = strings.Join(words, " ")
	return told, true
}

func (p *planPool) view(me impl.Lease) impl.View {
	return cloneView(impl.View{Me: me, Vols: p.vols, Groups: p.groups, Frees: p.frees[me.Host]})
}

// land writes a plan as a host would: the block, then each of Outs, and says which lease each sector had.
func (p *planPool) land(t *testing.T, me impl.Lease, o impl.Op, plan impl.Plan) {
	t.Helper()
	if o.Kind == impl.OpWrite {
		if p.held(plan.Block) != 0 || p.groups[plan.Block/impl.GBlocks].Lease != me {
			t.Errorf("%+v takes block %d, which is held or not mine", o, plan.Block)
		}
		p.blocks[plan.Block] = plan.Text
	}
	last := -1
	for _, out := range plan.Outs {
		if out.Sector <= last {
			t.Errorf("the Outs of %+v do not rise: %+v", o, plan.Outs)
		}
		last = out.Sector
		p.landOut(t, me, out)
	}
}

func (p *planPool) landOut(t *testing.T, me impl.Lease, out impl.Out) {
	t.Helper()
	switch at := out.Sector; {
	case at == 6+me.Host:
		frees, ok := impl.ReadFrees(out.Text)
		if p.frees[me.Host] = frees; !ok {
			t.Errorf("the list of freed blocks cannot be read: %q", out.Text)
		}
	case at >= 9 && at < 13:
		vol, ok := impl.ReadVol(out.Text)
		if !ok || p.vols[at-9].Lease != me || vol.Lease != me {
			t.Errorf("volume %d of %v is written %q by %v", at-9, p.vols[at-9].Lease, out.Text, me)
		}
		p.vols[at-9] = vol
	case at >= 13 && at < 16:
		group, ok := impl.ReadGroup(out.Text)
		if !ok || p.groups[at-13].Lease != me || group.Lease != me {
			t.Errorf("group %d of %v is written %q by %v", at-13, p.groups[at-13].Lease, out.Text, me)
		}
		p.groups[at-13] = group
	default:
		t.Errorf("sector %d is written by %v", at, me)
	}
}

// randomPool has right counts; blocks are held by few or by many.
func randomPool(r *rand.Rand) *planPool {
	p := &planPool{frees: make([][]int, impl.MaxHosts)}
	highest := []int{1, 3, 8, impl.Blocks - 1}[r.Intn(4)]
	for range impl.MaxVols {
		vol := impl.VolSec{Lease: planNo, On: r.Intn(4) > 0, Map: places()}
		if vol.On {
			vol.Map = randomNumbers(r, impl.VBlocks, -1, highest)
		}
		p.vols = append(p.vols, vol)
	}
	for host := range p.frees {
		p.frees[host] = randomNumbers(r, min(r.Intn(2*impl.MaxFrees), impl.MaxFrees), 0, min(2*highest, impl.Blocks-1))
	}
	for range impl.MaxGroups {
		p.groups = append(p.groups, impl.GroupSec{Lease: planNo, Refs: refs()})
	}
	for b := range impl.Blocks {
		p.groups[b/impl.GBlocks].Refs[b%impl.GBlocks] = p.held(b)
		p.blocks = append(p.blocks, randomText(r, impl.MaxBlock))
	}
	if !impl.ViewOk(p.view(planMe)) {
		return randomPool(r)
	}
	return p
}

func (p *planPool) shareOut(r *rand.Rand, me impl.Lease) {
	for i := range p.vols {
		p.vols[i].Lease = planLease(r, me)
	}
	for i := range p.groups {
		p.groups[i].Lease = planLease(r, me)
	}
}

// step is one call of a random host: what it says is landed, and each part of the promise is asked for.
func (p *planPool) step(t *testing.T, r *rand.Rand, met map[[2]int]int) {
	t.Helper()
	me := impl.Lease{Host: r.Intn(impl.MaxHosts), Epoch: 1 + r.Intn(3)}
	p.shareOut(r, me)
	ops := someOps(1 + r.Intn(impl.OpRead))
	o := ops[r.Intn(len(ops))]
	before := p.tells()
	plan := impl.MakePlan(p.view(me), o)
	met[[2]int{o.Kind, plan.Code}]++
	want, done := should(before, o)
	switch {
	case o.Kind == impl.OpRead:
		if len(plan.Outs) != 0 || plan.Text != "" {
			t.Errorf("%+v writes %+v", o, plan)
		}
	case plan.Code == impl.PlNone && done, plan.Code == impl.PlOk && !done:
		t.Errorf("%+v on %v is %d", o, before, plan.Code)
	case plan.Code == impl.PlOk:
		p.land(t, me, o, plan)
		if got := p.tells(); got != want {
			t.Errorf("%+v makes of %v %v, not %v", o, before, got, want)
		}
		if !p.countsAreRight() {
			t.Errorf("%+v leaves counts that are wrong: %+v", o, p)
		}
	}
}

func TestPlansMakeOfThePoolWhatCallsMakeOfIt(t *testing.T) {
	r := rand.New(rand.NewSource(55))
	met := map[[2]int]int{}
	for range 4000 {
		p := randomPool(r)
		if !p.countsAreRight() {
			t.Fatal("a pool to begin with whose counts are wrong")
		}
		for range 12 {
			p.step(t, r, met)
			if t.Failed() {
				return
			}
		}
	}
	wantMet(t, met)
}
