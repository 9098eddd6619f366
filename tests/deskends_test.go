package tests

import (
	"fmt"
	"slices"
	"strings"
	"testing"

	"loop.example/g00761/impl"
)

// asking says the same lines behind each line of a talk.
func (k *talk) asking(answer string, lines ...string) *talk {
	out := &talk{}
	out.all(answer, lines...)
	for i, line := range k.lines {
		out.say(line, k.answers[i])
		out.all(answer, lines...)
	}
	return out
}

func TestDeskTruth(t *testing.T) {
	k := &talk{}
	k.all("yes", "truth", "truth")
	k.want(t, "a new world")
	busyTalk().asking("yes", "truth").want(t, "calls")
	// A write falls at each of its steps, and another host takes over.
	for steps := range 9 {
		for _, lands := range []string{"land 0", "lose 0"} {
			k := &talk{}
			k.up(0)
			k.up(1)
			for _, call := range []string{"hold 0 0", "take 0 0", "create 0 0", "write 0 0 0 old"} {
				k.say(call, "0")
				k.say("step 0 9", "1")
			}
			k.say("write 0 0 0 new", "0")
			k.say(fmt.Sprint("step 0 ", steps), "0")
			k.all("0", "crash 0")
			if steps == 2 || steps == 4 {
				k.say(lands, "0")
			}
			said := "on 6f6c64 - - -"
			if steps > 4 || steps == 4 && lands == "land 0" {
				said = "on 6e6577 - - -"
			}
			k.say("vol 0", said)
			for range 2 {
				k.say("recover 1 0", "0")
				k.say("step 1 14", "1")
				k.say("vol 0", said)
			}
			for _, call := range []string{"hold 1 0", "take 1 0", "read 1 0 0", "write 1 0 0 more"} {
				k.say(call, "0")
				k.say("step 1 9", "1")
			}
			k.up(0)
			k.say("vol 0", "on 6d6f7265 - - -")
			k.asking("yes", "truth").want(t, fmt.Sprint(lands, " behind ", steps, " steps"))
		}
	}
}

func TestDeskCalm(t *testing.T) {
	for _, none := range []string{"0", "-1", "-12", "-999999999"} {
		k := &talk{}
		k.all("no", "calm "+none, "calm "+none)
		k.say("reply", "none")
		k.say("calm 1", "yes")
		k.say("reply", "0 ")
		k.all("yes", "calm "+none, "calm 1", "calm 2", "calm 6")
		k.want(t, "no rounds")
	}
	for _, some := range []string{"1", "2", "6", "11", "12", "13", "1000", "999999999"} {
		k := &talk{}
		k.say("calm "+some, "yes")
		k.all("3", "rise 0", "rise 1", "rise 2")
		k.all("0", "step 0 20", "step 1 20", "step 2 20", "crash 1")
		k.all("no", "calm 0")
		k.all("yes", "calm "+some, "calm 0")
		k.want(t, some+" rounds")
	}
}

func TestDeskCalmTellsWhetherItIsSettled(t *testing.T) {
	k := busyTalk()
	k.say("calm 0", "no")
	k.say("vol 0", "on - 6f6e65 - ff7300")
	k.say("calm 1", "yes")
	k.say("vol 0", "on 68616c66 6f6e65 - ff7300")
	k.say("recover 0 1", "0")
	k.say("calm 0", "no")
	// Host 1 is fenced in the midst of the round, and does not know it yet.
	k.say("calm 1", "no")
	k.say("calm 0", "no")
	k.say("calm 1", "yes")
	k.all("0", "recover 0 1", "recover 1 2", "recover 2 0")
	k.say("calm 1", "no")
	k.say(fmt.Sprint("calm ", impl.CalmNeeds-1), "yes")
	k.all("0", "crash 0", "crash 1", "crash 2")
	k.all("no", "calm 0", "calm -1")
	k.say("calm 12", "yes")
	k.all("on 68616c66 6f6e65 - ff7300", "vol 0")
	k.all("on - 6f6e65 - ff7300", "vol 1")
	k.say("hold 2 0", "0")
	k.say("calm 0", "no")
	k.say("step 2 1", "1")
	k.all("yes", "calm 0", "truth")
	k.say("reply", "0 ")
	k.want(t, "calm")
}

// Each beginning of a talk is answered by the beginning of its answers, whether its last line has its byte 10 or not.
func TestDeskOfEachBeginning(t *testing.T) {
	k := busyTalk()
	k.state()
	k.all("what", "step 0", " ", "vol 0 ")
	k.say("write 1 2 0 text", "0")
	k.say("calm 6", "yes")
	for n := range len(k.lines) + 1 {
		wantDesk(t, "its first lines", ended(k.lines[:n]), ended(k.answers[:n]))
		wantDesk(t, "its first lines", strings.TrimSuffix(ended(k.lines[:n]), "\n"), ended(k.answers[:n]))
		wantDesk(t, "its first lines, and others", ended(slices.Concat(k.lines[:n], []string{"", "step 0 x", "crash 3"})), ended(k.answers[:n])+"what\n2\n")
	}
}

// What follows may be too much, and is refused as a whole then.
func TestDeskOfABeginningOfTooMuch(t *testing.T) {
	k := busyTalk()
	start, answers := ended(k.lines), ended(k.answers)
	more := impl.MaxLines - len(k.lines)
	wantDesk(t, "as many lines as may be", start+strings.Repeat("\n", more), answers)
	wantDesk(t, "one more", start+strings.Repeat("\n", more+1), "")
	bytes := impl.MaxText - len(start)
	wantDesk(t, "as many bytes as may be", start+strings.Repeat("x", bytes), answers+"what\n")
	wantDesk(t, "one more", start+strings.Repeat("x", bytes+1), "")
}
