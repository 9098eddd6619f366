package tests

import (
	"fmt"
	"slices"
	"strings"
	"testing"

	"loop.example/g00761/impl"
)

// wantDesk asks twice, since the desk keeps nothing.
func wantDesk(t *testing.T, what string, text string, want string) {
	t.Helper()
	for range 2 {
		if got := impl.Desk(text); got != want {
			t.Errorf("%s: %d bytes, %.200q, are answered %d bytes, %.200q, not %d, %.200q", what, len(text), text, len(got), got, len(want), want)
		}
	}
}

// talk is what is said at the desk, line by line, and what it answers to each.
type talk struct {
	lines   []string
	answers []string
}

func (k *talk) say(line string, answer string) {
	k.lines = append(k.lines, line)
	k.answers = append(k.answers, answer)
}

// all says lines that are answered alike.
func (k *talk) all(answer string, lines ...string) {
	for _, line := range lines {
		k.say(line, answer)
	}
}

// up lets a host rise and recover itself.
func (k *talk) up(host int) {
	k.say(fmt.Sprint("rise ", host), "0")
	k.say(fmt.Sprintf("step %d 11", host), "1")
}

// ask lets a host do a whole call.
func (k *talk) ask(host int, call string, reply string) {
	k.say(call, "0")
	k.say(fmt.Sprintf("step %d 14", host), "1")
	k.say("reply", reply)
}

// lets asks for calls that the host does.
func (k *talk) lets(host int, calls ...string) {
	for _, call := range calls {
		k.ask(host, call, "0 ")
	}
}

func ended(lines []string) string {
	if len(lines) == 0 {
		return ""
	}
	return strings.Join(lines, "\n") + "\n"
}

// want asks for all of it, with and without the byte behind the last line, and tells the first line that is answered otherwise.
func (k *talk) want(t *testing.T, what string) {
	t.Helper()
	got := impl.Desk(ended(k.lines))
	if got == ended(k.answers) {
		wantDesk(t, what+", no byte 10 behind the last line", strings.TrimSuffix(ended(k.lines), "\n"), ended(k.answers))
		return
	}
	answers := strings.Split(got, "\n")
	for i, want := range k.answers {
		if i >= len(answers) || answers[i] != want {
			t.Errorf("%s: line %d, %q, is not answered %q: %.200q", what, i, k.lines[i], want, answers[min(i, len(answers)-1):])
			return
		}
	}
	t.Errorf("%s: %d lines are answered by %.200q", what, len(k.lines), got)
}

// busyTalk comes to a volume with texts, a copy of it, a volume that is empty, and a write of host 0 that is half done.
func busyTalk() *talk {
	k := &talk{}
	k.up(0)
	k.up(1)
	k.lets(0, "hold 0 0", "hold 0 1", "take 0 0", "take 0 1", "create 0 0", "write 0 0 1 one", "write 0 0 3 \xffs\x00", "snap 0 0 1")
	k.lets(1, "hold 1 2", "create 1 2")
	k.say("write 0 0 0 half", "0")
	k.say("step 0 2", "0")
	return k
}

func TestDeskLimits(t *testing.T) {
	if impl.MaxText != 20000 || impl.MaxLines != 200 {
		t.Error("limits", impl.MaxText, impl.MaxLines)
	}
}

func TestDeskOfNoLines(t *testing.T) {
	wantDesk(t, "the empty text", "", "")
	for _, n := range []int{1, 2, 3, 199, 200, 201, 202} {
		wantDesk(t, "lines without a byte", strings.Repeat("\n", n), "")
	}
}

func TestDeskOfMaxText(t *testing.T) {
	for _, start := range []string{"reply\n", "\n\nreply\n\n", "reply\r\nreply\n"} {
		for _, end := range []string{"", "\n"} {
			rest := func(n int) string { return start + strings.Repeat("x", n-len(start)-len(end)) + end }
			want := impl.Desk(start) + "what\n"
			wantDesk(t, "one byte less", rest(impl.MaxText-1), want)
			wantDesk(t, "MaxText bytes", rest(impl.MaxText), want)
			wantDesk(t, "one byte more", rest(impl.MaxText+1), "")
			wantDesk(t, "many more", rest(50*impl.MaxText), "")
		}
	}
	line := strings.Repeat("x", 99) + "\n"
	wantDesk(t, "both limits are met", strings.Repeat(line, impl.MaxLines), strings.Repeat("what\n", impl.MaxLines))
	wantDesk(t, "one byte more in so many lines", strings.Repeat(line, impl.MaxLines-1)+"x"+line, "")
	wantDesk(t, "one byte 10 more", strings.Repeat(line, impl.MaxLines)+"\n", "")
}

func TestDeskOfMaxLines(t *testing.T) {
	empty := func(n int) string { return strings.Repeat("\n", n) }
	wantDesk(t, "MaxLines less 1 without a byte, and one", empty(199)+"reply", "none\n")
	wantDesk(t, "likewise, with its byte 10", empty(199)+"reply\n", "none\n")
	wantDesk(t, "MaxLines without a byte, and one", empty(200)+"reply", "")
	wantDesk(t, "likewise, with its byte 10", empty(200)+"reply\n", "")
	wantDesk(t, "one, and MaxLines less 1 behind it", "reply\n"+empty(199), "none\n")
	wantDesk(t, "one, and MaxLines behind it", "reply\n"+empty(200), "")
	wantDesk(t, "one in the midst", empty(100)+"vol 1\n"+empty(99), "off\n")
	wantDesk(t, "one in the midst of one more", empty(100)+"vol 1\n"+empty(100), "")
	nones := func(n int) string { return strings.Repeat("none\n", n) }
	replies := func(n int) string { return strings.Repeat("reply\n", n) }
	wantDesk(t, "MaxLines, each with a byte", replies(200), nones(200))
	wantDesk(t, "the last one without its byte 10", replies(199)+"reply", nones(200))
	wantDesk(t, "one more, without its byte 10", replies(200)+"r", "")
	wantDesk(t, "one more, without a byte", replies(200)+"\n", "")
	wantDesk(t, "one more", replies(201), "")
	wantDesk(t, "lines that are none count too", strings.Repeat("x\n", 199)+replies(1), strings.Repeat("what\n", 199)+"none\n")
	wantDesk(t, "and so they do beyond", strings.Repeat("x\n", 200)+replies(1), "")
}

func TestDeskPassesOverLinesWithoutAByte(t *testing.T) {
	k := busyTalk()
	k.say("vol 0", "on - 6f6e65 - ff7300")
	k.say("nothing", "what")
	k.say("vol 2", "on - - - -")
	k.want(t, "none is passed over")
	var gaps strings.Builder
	for i, line := range k.lines {
		gaps.WriteString(strings.Repeat("\n", i%4) + line + "\n")
	}
	wantDesk(t, "lines without a byte between", gaps.String(), ended(k.answers))
	wantDesk(t, "and at the end", gaps.String()+"\n\n\n", ended(k.answers))
	wantDesk(t, "and at the beginning", "\n\n\n\n"+gaps.String(), ended(k.answers))
}

// Only a byte 10 ends a line, and only a byte 32 a word.
func TestDeskOfOtherBytes(t *testing.T) {
	for b := range 256 {
		one := string([]byte{byte(b)})
		k := &talk{}
		if b != '\n' {
			k.all("what", one, "reply"+one, one+"reply", "re"+one+"ply", "vol 0"+one+"x")
		}
		if b != '\n' && b != ' ' {
			k.all("what", "vol"+one+"0", "rise 0"+one+"0", "step 0"+one+"1")
		}
		if b < '0' || b > '9' {
			if b != '\n' && b != ' ' && b != '-' {
				k.all("what", "vol "+one, "vol "+one+"1", "vol 1"+one, "step 0 1"+one, "step "+one+"0 1")
			}
		}
		k.want(t, fmt.Sprint("byte ", b))
	}
	wantDesk(t, "byte 10 between words", "vol\n0\nreply\n", "what\nwhat\nnone\n")
}

// form is a line that the table names: which of its words are numbers, and what it is answered behind busyTalk.
type form struct {
	line    string
	numbers int
	answer  string
}

func forms() []form {
	return []form{
		{"step 0 1", 2, "0"}, {"crash 0", 1, "0"}, {"rise 2", 1, "0"}, {"land 0", 1, "0"}, {"lose 0", 1, "3"},
		{"create 1 3", 2, "0"}, {"delete 1 2", 2, "0"}, {"hold 1 3", 2, "0"}, {"drop 1 2", 2, "0"},
		{"take 1 2", 2, "0"}, {"give 1 1", 2, "0"}, {"recover 1 0", 2, "0"},
		{"write 1 2 3 text", 3, "0"}, {"discard 1 2 3", 3, "0"}, {"read 1 2 3", 3, "0"}, {"snap 1 2 3", 3, "0"},
		{"drain 1", 1, "0"}, {"calm 1", 1, "yes"}, {"reply", 0, "0 "}, {"vol 0", 1, "on - 6f6e65 - ff7300"}, {"truth", 0, "yes"},
	}
}

// noNumbers are words that ReadDec does not take.
func noNumbers() []string {
	return []string{
		"", "x", "+0", "+1", "-", "--1", "-0", "00", "01", "-01", "0-", "1-", "1234567890", "-1234567890", "0000000001", "1e1", "0x1",
		"1.", "1,0", "1_0", "1x", "x1", "\t1", "1\t", "1\r", "\x001", "1\x00", "\xff", "\xef\xbc\x91", "one", "-x", "\xd9\xa1",
	}
}

// wrongLines are lines which are none, though each of them is nearly the right one.
func wrongLines(f form) []string {
	words := strings.Split(f.line, " ")
	with := func(i int, word ...string) string {
		return strings.Join(slices.Insert(slices.Clone(words), i, word...), " ")
	}
	var out []string
	for i := range len(words) + 1 {
		out = append(out, with(i, ""), with(i, "", ""), with(i, "0"), with(i, "x"))
	}
	for i := range words {
		fewer := slices.Delete(slices.Clone(words), i, i+1)
		if len(fewer) > 0 {
			out = append(out, strings.Join(fewer, " "))
		}
	}
	for i := range f.numbers {
		for _, word := range noNumbers() {
			wrong := slices.Clone(words)
			wrong[1+i] = word
			out = append(out, strings.Join(wrong, " "))
		}
	}
	rest := strings.TrimPrefix(f.line, words[0])
	first := words[0]
	others := []string{strings.ToUpper(first), strings.ToUpper(first[:1]) + first[1:], first[1:], first[:len(first)-1], first + "s", "x" + first, first + first, first + "\r", "\t" + first, first + "\x00", "0", ""}
	for _, other := range others {
		if other+rest != "" {
			out = append(out, other+rest)
		}
	}
	return out
}

func TestDeskOfEachForm(t *testing.T) {
	if len(forms()) != 21 {
		t.Error("the table names", len(forms()), "words")
	}
	for _, f := range forms() {
		k := busyTalk()
		k.say(f.line, f.answer)
		k.want(t, f.line)
	}
}

// state are lines that tell most of a world.
func (k *talk) state() {
	k.all("yes", "truth")
	k.say("reply", "0 ")
	k.all("on - 6f6e65 - ff7300", "vol 0", "vol 1")
	k.say("vol 2", "on - - - -")
	k.all("off", "vol 3")
	k.say("step 1 5", "0")
	k.say("step 0 6", "0")
	k.say("step 0 1", "1")
	k.say("vol 0", "on 68616c66 6f6e65 - ff7300")
	k.say("land 0", "2")
	k.say("rise 2", "0")
	k.say("step 2 10", "0")
	k.say("step 2 1", "1")
}

// A line that is none does nothing either.
func TestDeskOfLinesThatAreNone(t *testing.T) {
	for _, f := range forms() {
		for lines := range slices.Chunk(wrongLines(f), 140) {
			k := busyTalk()
			k.all("what", lines...)
			k.state()
			k.want(t, "nearly "+f.line)
		}
	}
	k := busyTalk()
	k.all("what", " ", "  ", strings.Repeat(" ", 200), "0", "-1", "what", "none", "yes", "no", "on", "off", "done", "fence 0", "flush 0", "put 0 0 x", "act 1 0", "play", "look", "create", "copy 0 0 1", "recover", "\r", "\x00", "\xff")
	k.state()
	k.want(t, "words that none of the lines has")
}

// Each word of a line that is a number may be one of nine digits, whatever it then numbers.
func TestDeskOfFarNumbers(t *testing.T) {
	far := []string{"-1", "-9", "-10", "-99999999", "-999999999", "10", "99", "100", "12345678", "123456789", "999999999"}
	k := busyTalk()
	for _, n := range far {
		k.all("2", "crash "+n, "rise "+n, "land "+n, "lose "+n, "drain "+n, "create "+n+" 0", "recover "+n+" 0", "write "+n+" 0 0 x", "snap "+n+" 0 1")
		k.say("vol "+n, "none")
		k.say("step "+n+" 3", "0")
	}
	k.state()
	k.want(t, "no such host, write or volume")
	k = busyTalk()
	for _, n := range far {
		k.all("3", "create 1 "+n, "take 1 "+n, "recover 1 "+n, "write 1 "+n+" 0 x", "write 1 2 "+n+" x", "discard 1 2 "+n, "read 1 2 "+n, "snap 1 2 "+n, "snap 1 "+n+" 3", "read 1 "+n+" 0")
	}
	k.state()
	k.want(t, "no such volume, group, host or place")
}
