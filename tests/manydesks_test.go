package tests

import (
	"bytes"
	"encoding/hex"
	"fmt"
	"maps"
	"math/rand"
	"regexp"
	"slices"
	"strconv"
	"strings"
	"testing"

	"loop.example/g00761/impl"
)

var plainNumber = regexp.MustCompile(`\A(0|-?[1-9][0-9]{0,8})\z`)

// plainShape is each line of the table as a pattern of its own: n is a number, t a word.
var plainShape = map[string]string{
	"step": "nn", "crash": "n", "rise": "n", "land": "n", "lose": "n", "create": "nn", "delete": "nn", "hold": "nn", "drop": "nn",
	"take": "nn", "give": "nn", "recover": "nn", "write": "nnnt", "discard": "nnn", "read": "nnn", "snap": "nnn", "drain": "n",
	"calm": "n", "reply": "", "vol": "n", "truth": "",
}

// plainWords cuts at each blank, so that n blanks make n+1 words.
func plainWords(line []byte) []string {
	words := []string{""}
	for _, b := range line {
		if b == ' ' {
			words = append(words, "")
		} else {
			words[len(words)-1] += string([]byte{b})
		}
	}
	return words
}

// plainRead is the numbers of a line of the table.
func plainRead(words []string) ([]int, bool) {
	shape, known := plainShape[words[0]]
	if !known || len(words) != 1+len(shape) {
		return nil, false
	}
	var numbers []int
	for i := range len(shape) {
		if shape[i] == 't' {
			continue
		}
		if !plainNumber.MatchString(words[1+i]) {
			return nil, false
		}
		n, _ := strconv.Atoi(words[1+i])
		numbers = append(numbers, n)
	}
	return numbers, true
}

// plainAct is the act of the lines that are answered by a code.
func plainAct(words []string, n []int) impl.Act {
	call := func(o impl.Op) impl.Act { return impl.Act{Kind: impl.AcCall, A: n[0], Op: o} }
	switch words[0] {
	case "crash":
		return impl.Act{Kind: impl.AcCrash, A: n[0]}
	case "rise":
		return impl.Act{Kind: impl.AcRise, A: n[0]}
	case "land":
		return impl.Act{Kind: impl.AcLand, A: n[0]}
	case "lose":
		return impl.Act{Kind: impl.AcLose, A: n[0]}
	case "create":
		return call(impl.Op{Kind: impl.OpCreate, Vol: n[1]})
	case "delete":
		return call(impl.Op{Kind: impl.OpDelete, Vol: n[1]})
	case "hold":
		return call(impl.Op{Kind: impl.OpHold, Vol: n[1]})
	case "drop":
		return call(impl.Op{Kind: impl.OpDrop, Vol: n[1]})
	case "take":
		return call(impl.Op{Kind: impl.OpTake, Vol: n[1]})
	case "give":
		return call(impl.Op{Kind: impl.OpGive, Vol: n[1]})
	case "recover":
		return call(impl.Op{Kind: impl.OpRecover, Vol: n[1]})
	case "write":
		return call(impl.Op{Kind: impl.OpWrite, Vol: n[1], At: n[2], Text: words[4]})
	case "discard":
		return call(impl.Op{Kind: impl.OpDiscard, Vol: n[1], At: n[2]})
	case "read":
		return call(impl.Op{Kind: impl.OpRead, Vol: n[1], At: n[2]})
	case "snap":
		return call(impl.Op{Kind: impl.OpSnap, Vol: n[1], To: n[2]})
	}
	return call(impl.Op{Kind: impl.OpDrain})
}

func plainVol(s []string, v int) string {
	pool, _ := impl.Abstract(s)
	if v < 0 || v >= impl.MaxVols {
		return "none"
	}
	if !pool.Vols[v].On {
		return "off"
	}
	out := "on"
	for at := range impl.VBlocks {
		if pool.Vols[v].Has[at] {
			out += " " + hex.EncodeToString([]byte(pool.Vols[v].Texts[at]))
		} else {
			out += " -"
		}
	}
	return out
}

// plainAnswer is what one line makes of a world, and its answer.
func plainAnswer(w impl.World, line []byte) (impl.World, string) {
	words := plainWords(line)
	n, read := plainRead(words)
	if !read {
		return w, "what"
	}
	says := map[bool]string{true: "yes", false: "no"}
	switch words[0] {
	case "step":
		came := 0
		for i := 0; i < n[1] && i < 100; i++ {
			next, _ := impl.WorldDo(w, impl.Act{Kind: impl.AcStep, A: n[0]})
			came += len(next.Replies) - len(w.Replies)
			w = next
		}
		return w, fmt.Sprint(came)
	case "calm":
		w = impl.Calm(w, n[0])
		return w, says[impl.Settled(w)]
	case "reply":
		if len(w.Replies) == 0 {
			return w, "none"
		}
		last := w.Replies[len(w.Replies)-1]
		return w, fmt.Sprintf("%d %x", last.Code, last.Data)
	case "vol":
		return w, plainVol(w.Disk.Sectors, n[0])
	case "truth":
		return w, says[impl.Explain(w) && impl.RefsOk(w.Disk.Sectors)]
	}
	next, code := impl.WorldDo(w, plainAct(words, n))
	return next, strconv.Itoa(code)
}

// plainDesk is the chapter read once more, byte by byte. It tells the world that the lines come to besides.
func plainDesk(text string) (string, impl.World) {
	w := impl.NewWorld()
	rest := []byte(text)
	var out bytes.Buffer
	lines := 0
	for len(rest) > 0 {
		end := bytes.IndexByte(rest, 10)
		line := rest
		if end < 0 {
			rest = nil
		} else {
			line, rest = rest[:end], rest[end+1:]
		}
		lines++
		if len(line) > 0 {
			next, answer := plainAnswer(w, line)
			w = next
			out.WriteString(answer + "\n")
		}
	}
	if len(text) > 20000 || lines > 200 {
		return "", impl.NewWorld()
	}
	return out.String(), w
}

// clerk writes at the desk what a player does, and asks what came of it; some of its lines name what there is none of.
type clerk struct {
	*player
	lines []string
}

func newClerk(r *rand.Rand) *clerk {
	p := newPlayer(r)
	p.steady = r.Intn(3) == 0
	p.call = []func(impl.Host) impl.Op{p.chooseCall, p.chooseRich, p.chooseRich, p.chooseTakeover}[r.Intn(4)]
	return &clerk{player: p}
}

// number is now and then one past the bounds.
func (c *clerk) number(most int) int {
	switch c.r.Intn(8) {
	case 0:
		return -1
	case 1:
		return most + 1
	}
	return c.r.Intn(most + 1)
}

func (c *clerk) word() string {
	n := []int{0, 1, 2, 3, 5, impl.MaxBlock, impl.MaxBlock + 1}[c.r.Intn(7)]
	text := make([]byte, n)
	for i := range text {
		text[i] = byte(c.r.Intn(256))
		if text[i] == ' ' || text[i] == '\n' {
			text[i] = '-'
		}
	}
	return string(text)
}

// far is a line of any word of the table, whatever its numbers.
func (c *clerk) far() string {
	words := slices.Sorted(maps.Keys(plainShape))
	line := words[c.r.Intn(len(words))]
	for _, part := range plainShape[line] {
		if part == 't' {
			line += " " + c.word()
		} else {
			line += " " + strconv.Itoa(c.number(3))
		}
	}
	return line
}

func (c *clerk) look() string {
	switch c.r.Intn(10) {
	case 0:
		return fmt.Sprintf("calm %d", c.r.Intn(5)-1)
	case 1:
		return "truth"
	case 2, 3, 4, 5:
		return "reply"
	}
	return fmt.Sprintf("vol %d", c.r.Intn(impl.MaxVols))
}

// said is the line of a call.
func said(host int, o impl.Op) string {
	numbers := []int{host, o.Vol, o.At}
	switch o.Kind {
	case impl.OpSnap:
		numbers[2] = o.To
	case impl.OpDrain:
		numbers = numbers[:1]
	case impl.OpWrite, impl.OpDiscard, impl.OpRead:
	default:
		numbers = numbers[:2]
	}
	line := []string{"", "create", "delete", "write", "discard", "snap", "drain", "read", "hold", "drop", "take", "give", "recover"}[o.Kind]
	for _, n := range numbers {
		line += " " + strconv.Itoa(n)
	}
	if o.Kind == impl.OpWrite {
		line += " " + o.Text
	}
	return line
}

// left is a line about a write that is under way.
func (c *clerk) left() string {
	at := c.r.Intn(len(c.world.Disk.Pend))
	switch c.r.Intn(4) {
	case 0:
		return fmt.Sprint("land ", at)
	case 1:
		return fmt.Sprint("lose ", at)
	}
	return fmt.Sprint("crash ", c.world.Disk.Pend[at].Host)
}

func (c *clerk) line() string {
	switch n := c.r.Intn(12); {
	case n < 2:
		return c.far()
	case n < 5:
		return c.look()
	case n < 8 && len(c.world.Disk.Pend) > 0:
		return c.left()
	}
	a := c.choose()
	switch a.Kind {
	case impl.AcStep:
		return fmt.Sprintf("step %d %d", a.A, []int{1, 2, 4, 9, 20}[c.r.Intn(5)])
	case impl.AcCall:
		return said(a.A, a.Op)
	case impl.AcCrash, impl.AcRise, impl.AcLand, impl.AcLose:
		return fmt.Sprintf("%s %d", []string{"crash", "rise", "land", "lose"}[a.Kind-impl.AcCrash], a.A)
	}
	return c.far()
}

// slip makes of a line what is none, or one without a byte, or another one.
func (c *clerk) slip(line string) string {
	at := c.r.Intn(len(line) + 1)
	switch c.r.Intn(6) {
	case 0:
		return ""
	case 1:
		return line[:at] + " " + line[at:]
	case 2:
		return line[:at] + string([]byte{"0123456789-+xs \r\xff"[c.r.Intn(17)]}) + line[at:]
	case 3:
		return line[:at]
	case 4:
		return strings.ToUpper(line)
	}
	return line + " " + c.word()
}

func (c *clerk) write(n int) {
	for range n {
		line := c.line()
		if c.r.Intn(12) == 0 {
			line = c.slip(line)
		}
		if line != "" {
			c.world, _ = plainAnswer(c.world, []byte(line))
		}
		c.lines = append(c.lines, line)
	}
}

// linesWithAByte counts the lines that are answered.
func linesWithAByte(lines []string) int {
	return len(lines) - len(slices.DeleteFunc(slices.Clone(lines), func(line string) bool { return line != "" }))
}

// wantBeginnings asks that lines behind others change nothing of the answers to these.
func (c *clerk) wantBeginnings(t *testing.T, all string) {
	t.Helper()
	for range 3 {
		n := c.r.Intn(len(c.lines) + 1)
		first := impl.Desk(ended(c.lines[:n]))
		if !strings.HasPrefix(all, first) || strings.Count(first, "\n") != linesWithAByte(c.lines[:n]) {
			t.Errorf("%q is answered %q, and with lines behind it %q", c.lines[:n], first, all)
		}
		other := newClerk(c.r)
		other.write(4)
		more := impl.Desk(ended(slices.Concat(c.lines[:n], other.lines)))
		if !strings.HasPrefix(more, first) {
			t.Errorf("%q is answered %q, and with other lines behind it %q", c.lines[:n], first, more)
		}
	}
}

func TestManyDesksAsSaid(t *testing.T) {
	t.Parallel()
	r := rand.New(rand.NewSource(1201))
	met := map[string]int{}
	for range 150 {
		c := newClerk(r)
		c.write(20 + r.Intn(100))
		text := strings.TrimSuffix(ended(c.lines), "\n"[:r.Intn(2)])
		want, end := plainDesk(text)
		wantDesk(t, "many lines", text, want)
		wantTruth(t, "many lines", end)
		if n := strings.Count(want, "\n"); n != linesWithAByte(c.lines) {
			t.Errorf("%d lines are answered by %d", linesWithAByte(c.lines), n)
		}
		c.wantBeginnings(t, want)
		for i, answer := range strings.Split(strings.TrimSuffix(want, "\n"), "\n") {
			line := slices.DeleteFunc(slices.Clone(c.lines), func(line string) bool { return line == "" })[i]
			word, _, _ := strings.Cut(line, " ")
			met[word+" "+answer[:min(len(answer), 3)]]++
		}
		if t.Failed() {
			return
		}
	}
	wantAnswersMet(t, met)
}

// wantAnswersMet asks that the lines have come to what they can come to.
func wantAnswersMet(t *testing.T, met map[string]int) {
	t.Helper()
	for _, word := range []string{"crash", "rise", "create", "delete", "hold", "drop", "take", "give", "recover", "write", "discard", "read", "snap", "drain"} {
		for _, code := range []string{" 0", " 2", " 3", " wha"} {
			if met[word+code] == 0 {
				t.Errorf("no line met %q", word+code)
			}
		}
	}
	for _, line := range []string{"step 0", "step 1", "step wha", "land 0", "land 2", "lose 0", "lose 2", "lose 3", "calm yes", "calm no", "reply non", "reply 0 ", "reply 2 ", "reply 3 ", "reply 5 ", "vol off", "vol on ", "vol non", "truth yes"} {
		if met[line] == 0 {
			t.Errorf("no line met %q", line)
		}
	}
}

// Texts of any bytes at all, and of those that lines are made of.
func TestDeskOfRandomTexts(t *testing.T) {
	r := rand.New(rand.NewSource(1202))
	tokens := []string{" ", " ", " ", "\n", "\n", "0", "1", "2", "-1", "step", "rise", "calm", "reply", "vol", "truth", "write", "x", "\xff", "", "12", "hold"}
	for range 1500 {
		var text strings.Builder
		for range r.Intn(60) {
			if r.Intn(10) == 0 {
				text.WriteByte(byte(r.Intn(256)))
			} else {
				text.WriteString(tokens[r.Intn(len(tokens))])
			}
		}
		want, _ := plainDesk(text.String())
		wantDesk(t, "random words", text.String(), want)
	}
	for n := range 60 {
		text := randomText(r, 400*n)
		want, _ := plainDesk(text)
		wantDesk(t, "random bytes", text, want)
	}
}

// Lines may be as many as MaxLines, and then a call of each is a call of its own.
func TestTheLongestDesks(t *testing.T) {
	t.Parallel()
	r := rand.New(rand.NewSource(1203))
	for range 8 {
		c := newClerk(r)
		c.write(impl.MaxLines)
		want, end := plainDesk(ended(c.lines))
		wantDesk(t, "MaxLines", ended(c.lines), want)
		wantDesk(t, "one line more", ended(c.lines)+"reply", "")
		wantTruth(t, "MaxLines", end)
		if want == "" {
			t.Error("MaxLines lines have no answer")
		}
	}
}
