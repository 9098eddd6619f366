package tests

import (
	"math"
	"math/rand"
	"reflect"
	"slices"
	"strings"
	"testing"

	"loop.example/g00761/impl"
)

// sectorKind is one kind of sector by its face, with values of it that are right and values that are wrong in one single way.
type sectorKind struct {
	letter string
	zero   any
	show   func(value any) string
	read   func(s string) (any, bool)
	rights []any
	wrongs []wrongSector
}

type wrongSector struct {
	what  string
	value any
}

func sectorKinds() []sectorKind {
	return []sectorKind{
		{
			letter: "v",
			zero:   impl.VolSec{},
			show:   func(value any) string { return impl.ShowVol(value.(impl.VolSec)) },
			read:   func(s string) (any, bool) { v, ok := impl.ReadVol(s); return v, ok },
			rights: rightVols(),
			wrongs: wrongVols(),
		},
		{
			letter: "g",
			zero:   impl.GroupSec{},
			show:   func(value any) string { return impl.ShowGroup(value.(impl.GroupSec)) },
			read:   func(s string) (any, bool) { g, ok := impl.ReadGroup(s); return g, ok },
			rights: rightGroups(),
			wrongs: wrongGroups(),
		},
		{
			letter: "h",
			zero:   impl.HostSec{},
			show:   func(value any) string { return impl.ShowHost(value.(impl.HostSec)) },
			read:   func(s string) (any, bool) { h, ok := impl.ReadHost(s); return h, ok },
			rights: rightHostSecs(),
			wrongs: wrongHostSecs(),
		},
		{
			letter: "f",
			zero:   []int(nil),
			show:   func(value any) string { return impl.ShowFrees(value.([]int)) },
			read:   func(s string) (any, bool) { l, ok := impl.ReadFrees(s); return l, ok },
			rights: rightFrees(),
			wrongs: wrongFrees(),
		},
		{
			letter: "j",
			zero:   impl.Journal{},
			show:   func(value any) string { return impl.ShowJournal(value.(impl.Journal)) },
			read:   func(s string) (any, bool) { j, ok := impl.ReadJournal(s); return j, ok },
			rights: append(doneJournals(), openJournals()...),
			wrongs: append(wrongDoneJournals(), wrongOpenJournals()...),
		},
	}
}

func rightLeases() []impl.Lease {
	return []impl.Lease{{Host: -1}, {Host: 0, Epoch: 1}, {Host: 2, Epoch: 1}, {Host: 1, Epoch: 127}, {Host: 1, Epoch: 128}, {Host: 1, Epoch: 300}, {Host: 0, Epoch: impl.MaxEpoch}, {Host: 2, Epoch: impl.MaxEpoch}}
}

func wrongLeases() []impl.Lease {
	out := []impl.Lease{{Host: -1, Epoch: -1}, {Host: -1, Epoch: 1}, {Host: -1, Epoch: impl.MaxEpoch}, {Host: -2}, {Host: -2, Epoch: 1}, {Host: impl.MaxHosts}, {Host: impl.MaxHosts, Epoch: 1}}
	for host := range impl.MaxHosts {
		for _, epoch := range []int{0, -1, impl.MaxEpoch + 1, math.MinInt, math.MaxInt} {
			out = append(out, impl.Lease{Host: host, Epoch: epoch})
		}
	}
	for _, host := range []int{math.MinInt, math.MaxInt, impl.MaxVar} {
		out = append(out, impl.Lease{Host: host}, impl.Lease{Host: host, Epoch: 1})
	}
	return out
}

// eachPlace is the list with that number at one place, for each place.
func eachPlace(list []int, number int) [][]int {
	var out [][]int
	for i := range list {
		one := slices.Clone(list)
		one[i] = number
		out = append(out, one)
	}
	return out
}

func rightVols() []any {
	var out []any
	none := []int{-1, -1, -1, -1}
	for _, lease := range rightLeases() {
		out = append(out, impl.VolSec{Lease: lease, Map: none})
		for _, places := range [][]int{none, {0, 0, 0, 0}, {17, 17, 17, 17}, {-1, 0, 17, 3}, {5, -1, -1, 5}} {
			out = append(out, impl.VolSec{Lease: lease, On: true, Map: places})
		}
	}
	return out
}

func wrongVols() []wrongSector {
	var out []wrongSector
	add := func(what string, v impl.VolSec) { out = append(out, wrongSector{what, v}) }
	mine := impl.Lease{Host: 1, Epoch: 4}
	none := []int{-1, -1, -1, -1}
	for _, on := range []bool{false, true} {
		for _, lease := range wrongLeases() {
			add("a lease that is wrong", impl.VolSec{Lease: lease, On: on, Map: none})
		}
		add("no Map", impl.VolSec{Lease: mine, On: on})
		add("a Map of too few", impl.VolSec{Lease: mine, On: on, Map: none[:3]})
		add("a Map of too many", impl.VolSec{Lease: mine, On: on, Map: append(slices.Clone(none), -1)})
		for _, number := range []int{-2, impl.Blocks, math.MinInt, math.MaxInt, impl.MaxVar - 1} {
			for _, places := range eachPlace(none, number) {
				add("a Map with a number that is no block", impl.VolSec{Lease: mine, On: on, Map: places})
			}
		}
	}
	for _, block := range []int{0, 7, impl.Blocks - 1} {
		for _, places := range eachPlace(none, block) {
			add("a Map with a block where it is not On", impl.VolSec{Lease: mine, Map: places})
		}
	}
	return append(out, wrongSector{"the zero one", impl.VolSec{}})
}

func rightGroups() []any {
	var out []any
	for _, lease := range rightLeases() {
		for _, refs := range [][]int{{0, 0, 0, 0, 0, 0}, {16, 16, 16, 16, 16, 16}, {0, 1, 2, 16, 0, 5}} {
			out = append(out, impl.GroupSec{Lease: lease, Refs: refs})
		}
	}
	return out
}

func wrongGroups() []wrongSector {
	var out []wrongSector
	add := func(what string, g impl.GroupSec) { out = append(out, wrongSector{what, g}) }
	mine := impl.Lease{Host: 1, Epoch: 4}
	refs := []int{0, 1, 2, 16, 0, 0}
	for _, lease := range wrongLeases() {
		add("a lease that is wrong", impl.GroupSec{Lease: lease, Refs: refs})
	}
	add("no Refs", impl.GroupSec{Lease: mine})
	add("Refs of too few", impl.GroupSec{Lease: mine, Refs: refs[:5]})
	add("Refs of too many", impl.GroupSec{Lease: mine, Refs: append(slices.Clone(refs), 0)})
	for _, number := range []int{-1, impl.MaxRef + 1, math.MinInt, math.MaxInt, impl.MaxVar} {
		for _, wrong := range eachPlace(refs, number) {
			add("a Ref out of its bounds", impl.GroupSec{Lease: mine, Refs: wrong})
		}
	}
	return append(out, wrongSector{"the zero one", impl.GroupSec{}})
}

func rightHostSecs() []any {
	var out []any
	for _, lease := range rightLeases() {
		for _, beat := range []int{0, 1, 127, 128, 16384, impl.MaxBeat} {
			out = append(out, impl.HostSec{Beat: beat, Rec: lease})
		}
	}
	return out
}

func wrongHostSecs() []wrongSector {
	var out []wrongSector
	for _, lease := range wrongLeases() {
		out = append(out, wrongSector{"a Rec that is wrong", impl.HostSec{Beat: 5, Rec: lease}})
	}
	for _, beat := range []int{-1, impl.MaxBeat + 1, math.MinInt, math.MaxInt, impl.MaxVar} {
		for _, lease := range rightLeases() {
			out = append(out, wrongSector{"a Beat out of its bounds", impl.HostSec{Beat: beat, Rec: lease}})
		}
	}
	return append(out, wrongSector{"the zero one", impl.HostSec{}})
}

func rightFrees() []any {
	return []any{[]int(nil), []int{0}, []int{17}, []int{3, 3}, []int{17, 0, 9, 17}, slices.Repeat([]int{17}, impl.MaxFrees), []int{0, 1, 2, 3, 4, 5, 6, 7, 8, 9, 10, 11}}
}

func wrongFrees() []wrongSector {
	out := []wrongSector{
		{"MaxFrees blocks and one more", make([]int, impl.MaxFrees+1)},
		{"many blocks", make([]int, 200)},
	}
	for _, list := range [][]int{{0}, {3, 3}, make([]int, impl.MaxFrees)} {
		for _, number := range []int{-1, impl.Blocks, math.MinInt, math.MaxInt, impl.MaxVar} {
			for _, wrong := range eachPlace(list, number) {
				out = append(out, wrongSector{"a number that is no block", wrong})
			}
		}
	}
	return out
}

func doneJournals() []any {
	var out []any
	for _, txn := range []int{0, 1, 7, 127, 128, impl.MaxTxn} {
		out = append(out, impl.Journal{Txn: txn, Done: true})
	}
	return out
}

func openJournal() impl.Journal {
	return impl.Journal{Txn: 2, Op: impl.Op{Kind: 3, Vol: 1, At: 2, Text: "hi"}, Outs: []impl.Out{{Sector: 9, Text: "x"}, {Sector: 13, Text: ""}}}
}

func openWith(change func(j *impl.Journal)) impl.Journal {
	j := openJournal()
	change(&j)
	return j
}

// fullJournal is at every upper bound at once.
func fullJournal() impl.Journal {
	j := impl.Journal{Txn: impl.MaxTxn, Op: impl.Op{Kind: 20, Vol: 99, To: 99, At: 99, Text: strings.Repeat("\xff", impl.MaxBlock)}}
	for i := range impl.MaxOuts {
		j.Outs = append(j.Outs, impl.Out{Sector: impl.Sectors - impl.MaxOuts + i, Text: strings.Repeat("t", 60)})
	}
	return j
}

func openJournals() []any {
	out := []any{openJournal(), fullJournal()}
	add := func(change func(j *impl.Journal)) { out = append(out, openWith(change)) }
	for _, txn := range []int{1, 127, 128, impl.MaxTxn} {
		add(func(j *impl.Journal) { j.Txn = txn })
	}
	for _, kind := range []int{1, 6, 7, 12, 13, 20} {
		add(func(j *impl.Journal) { j.Op.Kind = kind })
	}
	for _, number := range []int{0, 4, 99} {
		add(func(j *impl.Journal) { j.Op.Vol = number })
		add(func(j *impl.Journal) { j.Op.To = number })
		add(func(j *impl.Journal) { j.Op.At = number })
	}
	for _, text := range []string{"", "\x00", strings.Repeat("b", impl.MaxBlock)} {
		add(func(j *impl.Journal) { j.Op.Text = text })
	}
	for _, text := range []string{"", "\x00\xff", strings.Repeat("o", 60)} {
		add(func(j *impl.Journal) { j.Outs[0].Text = text })
		add(func(j *impl.Journal) { j.Outs[1].Text = text })
	}
	add(func(j *impl.Journal) { j.Outs = j.Outs[:1] })
	add(func(j *impl.Journal) { j.Outs[0].Sector, j.Outs[1].Sector = 0, impl.Sectors-1 })
	add(func(j *impl.Journal) { j.Outs[0].Sector = j.Outs[1].Sector - 1 })
	add(func(j *impl.Journal) { j.Outs = manyOuts(impl.MaxOuts) })
	return out
}

func manyOuts(n int) []impl.Out {
	var out []impl.Out
	for i := range n {
		out = append(out, impl.Out{Sector: i})
	}
	return out
}

func wrongDoneJournals() []wrongSector {
	var out []wrongSector
	add := func(what string, j impl.Journal) { out = append(out, wrongSector{what, j}) }
	for _, txn := range []int{-1, impl.MaxTxn + 1, math.MinInt, math.MaxInt, impl.MaxVar} {
		add("done, a Txn out of its bounds", impl.Journal{Txn: txn, Done: true})
	}
	for _, txn := range []int{0, 5, impl.MaxTxn} {
		for _, op := range []impl.Op{{Kind: 1}, {Kind: 20}, {Kind: -1}, {Vol: 1}, {To: 1}, {At: 1}, {Text: "\x00"}, openJournal().Op} {
			add("done, with an Op", impl.Journal{Txn: txn, Done: true, Op: op})
		}
		for _, outs := range [][]impl.Out{make([]impl.Out, 1), openJournal().Outs, manyOuts(impl.MaxOuts)} {
			add("done, with Outs", impl.Journal{Txn: txn, Done: true, Outs: outs})
		}
		add("done, with Op and Outs", impl.Journal{Txn: txn, Done: true, Op: openJournal().Op, Outs: openJournal().Outs})
	}
	return out
}

func wrongOpenJournals() []wrongSector {
	out := []wrongSector{{"the zero one", impl.Journal{}}, {"not done, without Op and Outs", impl.Journal{Txn: 1}}}
	add := func(what string, change func(j *impl.Journal)) {
		out = append(out, wrongSector{"not done, " + what, openWith(change)})
		full := fullJournal()
		change(&full)
		out = append(out, wrongSector{"not done and full, " + what, full})
	}
	for _, txn := range []int{0, -1, impl.MaxTxn + 1, math.MinInt, math.MaxInt} {
		add("a Txn out of its bounds", func(j *impl.Journal) { j.Txn = txn })
	}
	for _, kind := range []int{0, -1, 21, math.MinInt, math.MaxInt} {
		add("a Kind out of its bounds", func(j *impl.Journal) { j.Op.Kind = kind })
	}
	for _, number := range []int{-1, 100, math.MinInt, math.MaxInt} {
		add("a Vol out of its bounds", func(j *impl.Journal) { j.Op.Vol = number })
		add("a To out of its bounds", func(j *impl.Journal) { j.Op.To = number })
		add("an At out of its bounds", func(j *impl.Journal) { j.Op.At = number })
	}
	add("a Text of one byte more", func(j *impl.Journal) { j.Op.Text = strings.Repeat("b", impl.MaxBlock+1) })
	add("no Outs", func(j *impl.Journal) { j.Outs = nil })
	add("MaxOuts and one more", func(j *impl.Journal) { j.Outs = manyOuts(impl.MaxOuts + 1) })
	for _, at := range []int{0, 1} {
		for _, sector := range []int{-1, impl.Sectors, math.MinInt, math.MaxInt} {
			add("a Sector that is none", func(j *impl.Journal) { j.Outs[at].Sector = sector })
		}
		add("an Out of one byte more", func(j *impl.Journal) { j.Outs[at].Text = strings.Repeat("o", 61) })
	}
	add("two of one Sector", func(j *impl.Journal) { j.Outs[1].Sector = j.Outs[0].Sector })
	add("two Sectors that fall", func(j *impl.Journal) { j.Outs[1].Sector = j.Outs[0].Sector - 1 })
	add("a last Sector that is none", func(j *impl.Journal) { j.Outs[len(j.Outs)-1].Sector = impl.Sectors })
	return out
}

// sectorPart is one part of a text: a letter, a number, a flag, how long a piece is, or a piece's bytes.
type sectorPart struct {
	sort byte
	text string
}

// partsMade lists the parts that the chapter names, asking for no bound; fits is false where a number has no Var.
type partsMade struct {
	list []sectorPart
	fits bool
}

func (p *partsMade) number(sort byte, n int) {
	if n < 0 || n > impl.MaxVar {
		p.fits = false
		return
	}
	var out []byte
	for ; n > 127; n >>= 7 {
		out = append(out, byte(n&127|128))
	}
	p.list = append(p.list, sectorPart{sort, string(append(out, byte(n)))})
}

func (p *partsMade) numbers(list ...int) {
	for _, n := range list {
		p.number('n', n)
	}
}

func (p *partsMade) lease(l impl.Lease) { p.numbers(l.Host+1, l.Epoch) }

func (p *partsMade) flag(b bool) {
	if b {
		p.number('f', 1)
		return
	}
	p.number('f', 0)
}

func (p *partsMade) piece(text string) {
	p.number('l', len(text))
	p.list = append(p.list, sectorPart{'b', text})
}

func plainParts(letter string, value any) ([]sectorPart, bool) {
	p := &partsMade{list: []sectorPart{{'L', letter}}, fits: true}
	switch x := value.(type) {
	case impl.VolSec:
		p.lease(x.Lease)
		p.flag(x.On)
		for _, n := range x.Map {
			p.number('n', n+1)
		}
	case impl.GroupSec:
		p.lease(x.Lease)
		p.numbers(x.Refs...)
	case impl.HostSec:
		p.numbers(x.Beat)
		p.lease(x.Rec)
	case []int:
		p.numbers(len(x))
		p.numbers(x...)
	case impl.Journal:
		p.numbers(x.Txn)
		p.flag(x.Done)
		p.numbers(x.Op.Kind, x.Op.Vol, x.Op.To, x.Op.At)
		p.piece(x.Op.Text)
		p.numbers(len(x.Outs))
		for _, out := range x.Outs {
			p.numbers(out.Sector)
			p.piece(out.Text)
		}
	}
	return p.list, p.fits
}

// summed is the body behind its right sum, told byte by byte.
func summed(body string) string {
	c := slowCrc(body)
	return string([]byte{byte(c >> 24), byte(c >> 16), byte(c >> 8), byte(c)}) + body
}

func joined(parts []sectorPart) string {
	var out strings.Builder
	for _, p := range parts {
		out.WriteString(p.text)
	}
	return summed(out.String())
}

func plainShow(letter string, value any) (string, bool) {
	parts, fits := plainParts(letter, value)
	return joined(parts), fits
}

// tidySector tells lists without members as nil, since both are the same value.
func tidySector(value any) any {
	switch x := value.(type) {
	case impl.VolSec:
		if len(x.Map) == 0 {
			x.Map = nil
		}
		return x
	case impl.GroupSec:
		if len(x.Refs) == 0 {
			x.Refs = nil
		}
		return x
	case []int:
		if len(x) == 0 {
			return []int(nil)
		}
	case impl.Journal:
		if len(x.Outs) == 0 {
			x.Outs = nil
		}
		return x
	}
	return value
}

func sameSector(a any, b any) bool { return reflect.DeepEqual(tidySector(a), tidySector(b)) }

func wantRead(t *testing.T, k sectorKind, s string, want any) {
	t.Helper()
	if got, ok := k.read(s); !ok || !sameSector(got, want) {
		t.Errorf("Read of %q as %s is %v %v, not %v", s, k.letter, got, ok, want)
	}
}

func wantNoRead(t *testing.T, k sectorKind, what string, s string) {
	t.Helper()
	if got, ok := k.read(s); ok || !sameSector(got, k.zero) {
		t.Errorf("%s: Read of %q as %s is %v %v", what, s, k.letter, got, ok)
	}
}

// wantHonest asks that a text is read only where Show makes it of what is read.
func wantHonest(t *testing.T, k sectorKind, what string, s string) {
	t.Helper()
	got, ok := k.read(s)
	if !ok {
		if !sameSector(got, k.zero) {
			t.Errorf("%s: Read of %q as %s is false beside %v", what, s, k.letter, got)
		}
		return
	}
	if made, fits := plainShow(k.letter, got); k.show(got) != s || made != s || !fits {
		t.Errorf("%s: %q is read as %v, which is told %q", what, s, got, made)
	}
}

func TestSectorLimits(t *testing.T) {
	got := []int{impl.MaxVols, impl.VBlocks, impl.MaxGroups, impl.GBlocks, impl.MaxBlock, impl.MaxRef, impl.MaxFrees, impl.MaxOuts, impl.MaxTxn, impl.MaxBeat, impl.Blocks, impl.Sectors}
	want := []int{4, 4, 3, 6, 16, 16, 12, 8, 1000000, 1000000, 18, 34}
	if !slices.Equal(got, want) {
		t.Errorf("the limits are %v, not %v", got, want)
	}
}

func TestSectorOfEveryKindAndNumber(t *testing.T) {
	sizes := []int{3, 3, 3, 4, 3, 18}
	begins := []int{0, 3, 6, 9, 13, 16}
	taken := map[int]int{}
	for kind, size := range sizes {
		for i := range size {
			got := impl.SectorOf(kind, i)
			if got != begins[kind]+i {
				t.Errorf("SectorOf(%d, %d) is %d, not %d", kind, i, got, begins[kind]+i)
			}
			taken[got]++
		}
		for _, i := range []int{-1, size, size + 1, -size, impl.Sectors, math.MinInt, math.MaxInt} {
			if got := impl.SectorOf(kind, i); got != -1 {
				t.Errorf("SectorOf(%d, %d) is %d, not -1", kind, i, got)
			}
		}
	}
	for sector := range impl.Sectors {
		if taken[sector] != 1 {
			t.Errorf("sector %d is the place of %d", sector, taken[sector])
		}
	}
	if len(taken) != impl.Sectors {
		t.Errorf("there are %d places", len(taken))
	}
	for _, kind := range []int{-1, 6, 7, math.MinInt, math.MaxInt} {
		for _, i := range []int{-1, 0, 1, 17, math.MaxInt} {
			if got := impl.SectorOf(kind, i); got != -1 {
				t.Errorf("SectorOf(%d, %d) is %d, not -1", kind, i, got)
			}
		}
	}
}

func TestShowByHand(t *testing.T) {
	mine := impl.Lease{Host: 1, Epoch: 300}
	shown := [][2]string{
		{impl.ShowVol(impl.VolSec{Lease: mine, On: true, Map: []int{-1, 0, 17, 3}}), "v\x02\xac\x02\x01\x00\x01\x12\x04"},
		{impl.ShowVol(impl.VolSec{Lease: impl.Lease{Host: -1}, Map: []int{-1, -1, -1, -1}}), "v\x00\x00\x00\x00\x00\x00\x00"},
		{impl.ShowGroup(impl.GroupSec{Lease: mine, Refs: []int{0, 1, 2, 16, 0, 0}}), "g\x02\xac\x02\x00\x01\x02\x10\x00\x00"},
		{impl.ShowHost(impl.HostSec{Beat: 128, Rec: impl.Lease{Host: 2, Epoch: 1}}), "h\x80\x01\x03\x01"},
		{impl.ShowFrees([]int{17, 0, 17}), "f\x03\x11\x00\x11"},
		{impl.ShowFrees(nil), "f\x00"},
		{impl.ShowFrees([]int{}), "f\x00"},
		{impl.ShowJournal(impl.Journal{Txn: 7, Done: true}), "j\x07\x01\x00\x00\x00\x00\x00\x00"},
		{impl.ShowJournal(impl.Journal{Txn: 7, Done: true, Outs: []impl.Out{}}), "j\x07\x01\x00\x00\x00\x00\x00\x00"},
		{impl.ShowJournal(impl.Journal{Txn: 200, Op: impl.Op{Kind: 5, Vol: 1, To: 2, At: 3}, Outs: []impl.Out{{Sector: 0, Text: "ab"}, {Sector: 33}}}), "j\xc8\x01\x00\x05\x01\x02\x03\x00\x02\x00\x02ab\x21\x00"},
	}
	for i, s := range shown {
		if s[0] != summed(s[1]) {
			t.Errorf("number %d is shown as %q, not %q", i, s[0], summed(s[1]))
		}
	}
}

func TestShowAndReadOfWhatIsRight(t *testing.T) {
	for _, k := range sectorKinds() {
		for _, value := range k.rights {
			want, _ := plainShow(k.letter, value)
			if got := k.show(value); got != want {
				t.Errorf("Show of %v is %q, not %q", value, got, want)
			}
			if len(want) > impl.MaxSector {
				t.Errorf("%v has a text of %d bytes", value, len(want))
			}
			wantRead(t, k, want, value)
		}
	}
}

func TestShowAndReadOfWhatIsWrong(t *testing.T) {
	for _, k := range sectorKinds() {
		for _, w := range k.wrongs {
			if got := k.show(w.value); got != "" {
				t.Errorf("%s: Show of %v is %q", w.what, w.value, got)
			}
			if s, fits := plainShow(k.letter, w.value); fits {
				wantNoRead(t, k, w.what, s)
			}
		}
	}
}

func TestReadTakesNoTurnedByte(t *testing.T) {
	t.Parallel()
	for _, k := range sectorKinds() {
		for _, value := range k.rights {
			text := []byte(k.show(value))
			for at := range text {
				was := text[at]
				for by := 1; by < 256; by++ {
					text[at] = was ^ byte(by)
					wantNoRead(t, k, "one byte turned", string(text))
				}
				text[at] = was
			}
		}
	}
}

func TestReadTakesNoMoreAndNoLess(t *testing.T) {
	for _, k := range sectorKinds() {
		for _, value := range k.rights {
			text := k.show(value)
			for b := range 256 {
				more := string([]byte{byte(b)})
				wantNoRead(t, k, "one byte more", text+more)
				wantNoRead(t, k, "one byte more, summed", summed(text[4:]+more))
				wantNoRead(t, k, "one byte ahead", more+text)
				wantNoRead(t, k, "one byte ahead, summed", summed(more+text[4:]))
			}
			for n := range len(text) {
				wantNoRead(t, k, "a beginning", text[:n])
			}
			for n := range len(text) - 4 {
				wantNoRead(t, k, "a beginning, summed", summed(text[4:4+n]))
			}
			for n := 1; n <= len(text); n++ {
				wantNoRead(t, k, "an end", text[n:])
			}
			wantNoRead(t, k, "twice", text+text)
		}
	}
}

func TestReadTakesNoOtherKind(t *testing.T) {
	kinds := sectorKinds()
	for _, k := range kinds {
		for _, other := range kinds {
			if other.letter == k.letter {
				continue
			}
			for _, value := range other.rights {
				wantNoRead(t, k, "another kind", other.show(value))
			}
		}
		for _, value := range k.rights {
			for b := range 256 {
				if letter := string([]byte{byte(b)}); letter != k.letter {
					wantNoRead(t, k, "another letter", summed(letter+k.show(value)[5:]))
				}
			}
		}
	}
}

// longer is a Var with a byte that is not needed.
func longer(number string) string {
	last := len(number) - 1
	return number[:last] + string([]byte{number[last] | 128, 0})
}

func withPart(parts []sectorPart, at int, text string) string {
	changed := slices.Clone(parts)
	changed[at].text = text
	return joined(changed)
}

func TestReadTakesNoPartsThatShowDoesNotMake(t *testing.T) {
	for _, k := range sectorKinds() {
		for _, value := range k.rights {
			parts, _ := plainParts(k.letter, value)
			for at, p := range parts {
				if p.sort == 'n' || p.sort == 'f' || p.sort == 'l' {
					wantNoRead(t, k, "a byte that is not needed", withPart(parts, at, longer(p.text)))
					wantNoRead(t, k, "a number that does not end", withPart(parts, at, "\xff\xff\xff\xff\xff\xff\xff\xff"))
					wantNoRead(t, k, "the greatest number", withPart(parts, at, "\xff\xff\xff\xff\xff\xff\x7f"))
				}
				if p.sort == 'f' {
					for _, flag := range []string{"\x02", "\x03", "\x7f", "\x80\x01", "\x81\x01"} {
						wantNoRead(t, k, "a flag that is none", withPart(parts, at, flag))
					}
					wantNoRead(t, k, "the other flag", otherFlag(k, value, parts, at))
				}
				if p.sort == 'l' {
					wantNoRead(t, k, "a piece longer than what is left", withPart(parts, at, impl.Var(600)))
				}
				wantHonest(t, k, "a part left out", joined(slices.Delete(slices.Clone(parts), at, at+1)))
				wantHonest(t, k, "a part twice", joined(slices.Insert(slices.Clone(parts), at, p)))
			}
			if last := parts[len(parts)-1]; last.sort == 'b' {
				long := impl.Var(len(last.text) + 1)
				wantNoRead(t, k, "a last piece one byte longer than what is left", withPart(parts, len(parts)-2, long))
			}
		}
	}
}

// otherFlag is the text with its flag turned, where that makes it wrong: a volume without blocks is right both ways, so it stays cut.
func otherFlag(k sectorKind, value any, parts []sectorPart, at int) string {
	if v, isVol := value.(impl.VolSec); isVol && !slices.ContainsFunc(v.Map, func(n int) bool { return n >= 0 }) {
		return ""
	}
	if parts[at].text == "\x00" {
		return withPart(parts, at, "\x01")
	}
	return withPart(parts, at, "\x00")
}

func TestReadOfCountsThatAreNotSo(t *testing.T) {
	kinds := sectorKinds()
	frees, journals := kinds[3], kinds[4]
	for _, body := range []string{"f", "f\x01", "f\x00\x00", "f\x02\x03", "f\x01\x03\x03", "f\x0d" + strings.Repeat("\x00", 13), "f\xff\xff\xff\xff\xff\xff\x7f", "f\xff\xff\xff\xff\xff\xff\x7f" + strings.Repeat("\x00", 600)} {
		wantNoRead(t, frees, "frees", summed(body))
	}
	open := "j\x02\x00\x03\x01\x00\x02\x02hi"
	wantRead(t, journals, summed(open+"\x02\x09\x01x\x0d\x00"), openJournal())
	for _, outs := range []string{"", "\x00", "\x01", "\x01\x09", "\x01\x09\x02x", "\x01\x09\x01x\x0d\x00", "\x02\x09\x01x", "\x02\x09\x01x\x09\x00", "\x02\x09\x01x\x08\x00", "\x03\x09\x01x\x0d\x00", "\x01\x22\x00", "\x01\x09\x3d" + strings.Repeat("x", 61), "\x09\x00\x00\x01\x00\x02\x00\x03\x00\x04\x00\x05\x00\x06\x00\x07\x00\x08\x00"} {
		wantNoRead(t, journals, "outs", summed(open+outs))
	}
	for _, body := range []string{"j\x07\x01", "j\x07\x01\x00\x00\x00\x00\x00", "j\x07\x01\x01\x00\x00\x00\x00\x00", "j\x07\x01\x00\x01\x00\x00\x00\x00", "j\x07\x01\x00\x00\x01\x00\x00\x00", "j\x07\x01\x00\x00\x00\x01\x00\x00", "j\x07\x01\x00\x00\x00\x00\x01a\x00", "j\x07\x01\x00\x00\x00\x00\x00\x01\x09\x01x", "j\x07\x00\x00\x00\x00\x00\x00\x00", "j\x07\x01\x03\x01\x00\x02\x02hi\x01\x09\x01x"} {
		wantNoRead(t, journals, "done", summed(body))
	}
}

func TestReadOfLongTexts(t *testing.T) {
	for _, k := range sectorKinds() {
		wantNoRead(t, k, "no text", "")
		for _, b := range []string{"\x00", "\x01", "\x7f", "\x80", "\xff", k.letter} {
			for _, n := range []int{1, 2, 3, 4, 5, 6, 60, 700, 100000} {
				wantNoRead(t, k, "one byte over and over", strings.Repeat(b, n))
				wantNoRead(t, k, "over and over, summed", summed(k.letter+strings.Repeat(b, n)+"\xff"))
			}
		}
	}
}

// shortBodies hands on each body of the letter and at most so many of these bytes.
func shortBodies(letter string, bytes string, most int, each func(body string)) {
	each(letter)
	if most == 0 {
		return
	}
	for i := range len(bytes) {
		shortBodies(letter+bytes[i:i+1], bytes, most-1, each)
	}
}

// shortKind says which bodies are tried, and how many of them are right, told from the bounds by hand.
type shortKind struct {
	letter string
	bytes  string
	most   int
	rights int
}

func TestEachShortBodyIsReadHonestly(t *testing.T) {
	shorts := []shortKind{
		// 3 leases; not On without a block, or On with 2 ways at each of 4 places.
		{"v", "\x00\x01\x13", 8, 3 * (1 + 16)},
		// 3 leases; 2 counts of each of 6 blocks.
		{"g", "\x00\x01\x11", 8, 3 * 64},
		// 5 beats of one byte and 12 of two; 9 leases of two bytes and 24 of three.
		{"h", "\x00\x01\x03\x04\x7f\x80\x81\xff", 4, 5*9 + 12*9 + 5*24},
		// None, one or two of 5 blocks.
		{"f", "\x00\x01\x02\x05\x11\x12\x80", 5, 1 + 5 + 25},
		// 3 that are done; 2 Txns, 2 Kinds, 3 of each of 3 numbers, one Out of 3 sectors: without texts, or with one of a byte.
		{"j", "\x00\x01\x02", 11, 3 + 324 + 2*3*324},
	}
	for i, k := range sectorKinds() {
		short, read := shorts[i], 0
		shortBodies(k.letter, short.bytes, short.most, func(body string) {
			wantHonest(t, k, "a short body", summed(body))
			if _, ok := k.read(summed(body)); ok {
				read++
			}
		})
		if short.letter != k.letter || read != short.rights {
			t.Errorf("of the short bodies of %s %d are read, not %d", k.letter, read, short.rights)
		}
	}
}

func randomText(r *rand.Rand, most int) string {
	out := make([]byte, r.Intn(most+1))
	for i := range out {
		out[i] = byte(r.Intn(256))
	}
	return string(out)
}

func randomLease(r *rand.Rand) impl.Lease {
	host := r.Intn(impl.MaxHosts+1) - 1
	if host < 0 {
		return impl.Lease{Host: -1}
	}
	return impl.Lease{Host: host, Epoch: 1 + r.Intn(impl.MaxEpoch)>>r.Intn(17)}
}

func randomNumbers(r *rand.Rand, count int, low int, high int) []int {
	var out []int
	for range count {
		out = append(out, low+r.Intn(high-low+1))
	}
	return out
}

func randomSector(r *rand.Rand, letter string) any {
	switch letter {
	case "v":
		v := impl.VolSec{Lease: randomLease(r), On: r.Intn(4) > 0, Map: randomNumbers(r, impl.VBlocks, -1, -1)}
		if v.On {
			v.Map = randomNumbers(r, impl.VBlocks, -1, impl.Blocks-1)
		}
		return v
	case "g":
		return impl.GroupSec{Lease: randomLease(r), Refs: randomNumbers(r, impl.GBlocks, 0, impl.MaxRef)}
	case "h":
		return impl.HostSec{Beat: r.Intn(impl.MaxBeat+1) >> r.Intn(20), Rec: randomLease(r)}
	case "f":
		return randomNumbers(r, r.Intn(impl.MaxFrees+1), 0, impl.Blocks-1)
	}
	j := impl.Journal{Txn: 1 + r.Intn(impl.MaxTxn)>>r.Intn(20), Done: r.Intn(4) == 0}
	if j.Done {
		return j
	}
	n := randomNumbers(r, 3, 0, 99)
	j.Op = impl.Op{Kind: 1 + r.Intn(20), Vol: n[0], To: n[1], At: n[2], Text: randomText(r, impl.MaxBlock)}
	places := r.Perm(impl.Sectors)[:1+r.Intn(impl.MaxOuts)]
	slices.Sort(places)
	for _, sector := range places {
		j.Outs = append(j.Outs, impl.Out{Sector: sector, Text: randomText(r, 60)})
	}
	return j
}

func TestManyRightValuesAreReadAgain(t *testing.T) {
	r := rand.New(rand.NewSource(4))
	for _, k := range sectorKinds() {
		for range 400 {
			value := randomSector(r, k.letter)
			text, _ := plainShow(k.letter, value)
			if got := k.show(value); got != text {
				t.Fatalf("Show of %v is %q, not %q", value, got, text)
			}
			wantRead(t, k, text, value)
			body := []byte(text[4:])
			for range 50 {
				turned := slices.Clone(body)
				turned[r.Intn(len(turned))] = byte(r.Intn(256))
				turned[r.Intn(len(turned))] = byte(r.Intn(20))
				wantHonest(t, k, "a body turned and summed", summed(string(turned)))
			}
		}
	}
}

func TestShowLeavesItsArgument(t *testing.T) {
	numbers := []int{-1, 0, 17, 3, 77, 78}
	impl.ShowVol(impl.VolSec{Lease: impl.Lease{Host: 0, Epoch: 1}, On: true, Map: numbers[:4]})
	if !slices.Equal(numbers, []int{-1, 0, 17, 3, 77, 78}) {
		t.Error("ShowVol changed its Map, or the room behind it", numbers)
	}
	numbers = []int{0, 1, 2, 16, 0, 0, 77, 78}
	impl.ShowGroup(impl.GroupSec{Lease: impl.Lease{Host: -1}, Refs: numbers[:6]})
	impl.ShowFrees(numbers[:6])
	impl.ShowFrees(numbers[:0])
	if !slices.Equal(numbers, []int{0, 1, 2, 16, 0, 0, 77, 78}) {
		t.Error("ShowGroup or ShowFrees changed its list, or the room behind it", numbers)
	}
	outs := []impl.Out{{Sector: 9, Text: "x"}, {Sector: 13}, {Sector: 77, Text: "spare"}}
	before := slices.Clone(outs)
	impl.ShowJournal(impl.Journal{Txn: 1, Op: impl.Op{Kind: 3}, Outs: outs[:2]})
	impl.ShowJournal(impl.Journal{Txn: 1, Done: true, Outs: outs[:0]})
	if !slices.Equal(outs, before) {
		t.Error("ShowJournal changed its Outs, or the room behind them", outs)
	}
}

func spoilSector(value any) {
	switch x := value.(type) {
	case impl.VolSec:
		spoilNumbers(x.Map)
	case impl.GroupSec:
		spoilNumbers(x.Refs)
	case []int:
		spoilNumbers(x)
	case impl.Journal:
		for i := range x.Outs {
			x.Outs[i] = impl.Out{Sector: -99, Text: "spoiled"}
		}
	}
}

func spoilNumbers(list []int) {
	list = list[:cap(list)]
	for i := range list {
		list[i] = -99
	}
}

func TestReadsShareNothing(t *testing.T) {
	for _, k := range sectorKinds() {
		for _, value := range k.rights {
			text := k.show(value)
			first, _ := k.read(text)
			second, _ := k.read(text)
			spoilSector(first)
			if !sameSector(second, value) {
				t.Errorf("two Reads of %q share memory", text)
			}
			wantRead(t, k, text, value)
		}
	}
}

// freshPool is what Format should make, told by the chapter's words.
func freshPool() []string {
	var out []string
	add := func(n int, text string) { out = append(out, slices.Repeat([]string{text}, n)...) }
	add(3, summed("h\x00\x00\x00"))
	add(3, summed("j\x00\x01\x00\x00\x00\x00\x00\x00"))
	add(3, summed("f\x00"))
	add(4, summed("v\x00\x00\x00\x00\x00\x00\x00"))
	add(3, summed("g\x00\x00\x00\x00\x00\x00\x00\x00"))
	add(18, "")
	return out
}

func TestFormatIsAPoolWithoutVolumes(t *testing.T) {
	f := impl.Format()
	if !slices.Equal(f, freshPool()) || !impl.PoolOk(f) {
		t.Fatalf("Format is %q", f)
	}
	nobody := impl.Lease{Host: -1}
	kinds := sectorKinds()
	for i := range impl.MaxHosts {
		wantRead(t, kinds[2], f[impl.SectorOf(0, i)], impl.HostSec{Rec: nobody})
		wantRead(t, kinds[4], f[impl.SectorOf(1, i)], impl.Journal{Done: true})
		wantRead(t, kinds[3], f[impl.SectorOf(2, i)], []int(nil))
	}
	for i := range impl.MaxVols {
		wantRead(t, kinds[0], f[impl.SectorOf(3, i)], impl.VolSec{Lease: nobody, Map: []int{-1, -1, -1, -1}})
	}
	for i := range impl.MaxGroups {
		wantRead(t, kinds[1], f[impl.SectorOf(4, i)], impl.GroupSec{Lease: nobody, Refs: make([]int, impl.GBlocks)})
	}
	for i := range impl.Blocks {
		if f[impl.SectorOf(5, i)] != "" {
			t.Errorf("block %d is %q", i, f[impl.SectorOf(5, i)])
		}
	}
	other := impl.Format()
	for i := range f {
		f[i] = "spoiled"
	}
	if !slices.Equal(other, freshPool()) || !slices.Equal(impl.Format(), freshPool()) {
		t.Error("two Formats share memory")
	}
}

// usedPool is a right pool in which each sector is another one than Format's.
func usedPool() []string {
	s := freshPool()
	set := func(kind int, i int, text string) { s[impl.SectorOf(kind, i)] = text }
	for i := range impl.MaxHosts {
		set(0, i, impl.ShowHost(impl.HostSec{Beat: impl.MaxBeat, Rec: impl.Lease{Host: i, Epoch: 1 + i}}))
		set(1, i, impl.ShowJournal(fullJournal()))
		set(2, i, impl.ShowFrees(slices.Repeat([]int{17}, impl.MaxFrees)))
	}
	for i := range impl.MaxVols {
		set(3, i, impl.ShowVol(impl.VolSec{Lease: impl.Lease{Host: 2, Epoch: impl.MaxEpoch}, On: true, Map: []int{17, 0, -1, 17}}))
	}
	for i := range impl.MaxGroups {
		set(4, i, impl.ShowGroup(impl.GroupSec{Lease: impl.Lease{Host: 0, Epoch: 300}, Refs: []int{16, 0, 1, 2, 3, 4}}))
	}
	for i := range impl.Blocks {
		set(5, i, strings.Repeat("\xff", impl.MaxBlock))
	}
	return s
}

func wantPool(t *testing.T, what string, s []string, want bool) {
	t.Helper()
	if got := impl.PoolOk(s); got != want {
		t.Errorf("%s: PoolOk is %v", what, got)
	}
}

func TestPoolOkAsksForEverySector(t *testing.T) {
	for _, pool := range [][]string{freshPool(), usedPool()} {
		wantPool(t, "a right pool", pool, true)
		wantPool(t, "one sector too few", pool[:impl.Sectors-1], false)
		wantPool(t, "the first sector lacks", pool[1:], false)
		wantPool(t, "one sector too many", append(slices.Clone(pool), ""), false)
		wantPool(t, "one sector too many ahead", append([]string{pool[0]}, pool...), false)
		for at := range impl.SectorOf(5, 0) {
			for _, text := range []string{"", "spoiled", pool[at] + "\x00", pool[at][:len(pool[at])-1], "\x00" + pool[at][1:]} {
				spoilt := slices.Clone(pool)
				spoilt[at] = text
				wantPool(t, "a sector spoilt", spoilt, false)
			}
			for by := range len(pool[at]) {
				turned := []byte(pool[at])
				turned[by] ^= 1
				spoilt := slices.Clone(pool)
				spoilt[at] = string(turned)
				wantPool(t, "a sector with one byte turned", spoilt, false)
			}
		}
	}
	wantPool(t, "no sectors", nil, false)
	wantPool(t, "sectors without bytes", make([]string, impl.Sectors), false)
}

func TestPoolOkAsksForEachKindAtItsPlace(t *testing.T) {
	pool := usedPool()
	kindOf := func(sector int) int {
		for kind := range 6 {
			if last := impl.SectorOf(kind, []int{3, 3, 3, 4, 3, 18}[kind]-1); sector <= last {
				return kind
			}
		}
		return -1
	}
	for a := range impl.SectorOf(5, 0) {
		for b := range impl.Sectors {
			moved := slices.Clone(pool)
			moved[a] = pool[b]
			wantPool(t, "a sector of another place", moved, kindOf(a) == kindOf(b))
		}
	}
}

func TestPoolOkOfBlocks(t *testing.T) {
	for i := range impl.Blocks {
		for _, n := range []int{0, 1, impl.MaxBlock, impl.MaxBlock + 1, impl.MaxSector} {
			pool := freshPool()
			pool[impl.SectorOf(5, i)] = strings.Repeat("b", n)
			wantPool(t, "a block", pool, n <= impl.MaxBlock)
		}
	}
}

func TestPoolOkLeavesItsArgument(t *testing.T) {
	pool := append(usedPool(), "spare", "spare")
	before := slices.Clone(pool)
	impl.PoolOk(pool[:impl.Sectors])
	impl.PoolOk(pool[:impl.Sectors-1])
	if !slices.Equal(pool, before) {
		t.Error("PoolOk changed its argument, or the room behind it")
	}
}
