package tests

import (
	"fmt"
	"strings"
	"testing"

	"loop.example/g00761/impl"
)

func TestDeskStepTellsHowManyRepliesCame(t *testing.T) {
	k := &talk{}
	k.all("0", "step 0 1", "step 0 100", "step 3 1", "step -1 100", "rise 0")
	k.say("reply", "none")
	k.all("0", "step 0 0", "step 0 -1", "step 0 -100", "step 0 -999999999")
	for range 10 {
		k.say("step 0 1", "0")
	}
	k.say("reply", "none")
	k.all("0", "step 1 100", "step 2 999999999")
	k.say("step 0 1", "1")
	k.say("reply", "0 ")
	k.all("0", "step 0 1", "step 0 100")
	k.want(t, "one step each")
	for _, n := range []string{"11", "12", "20", "60", "99", "100", "101", "1000", "999999999"} {
		k := &talk{}
		k.say("rise 0", "0")
		k.say("step 0 "+n, "1")
		k.say("step 0 "+n, "0")
		k.want(t, n+" steps")
	}
}

// A call takes as many steps as it says, and no host steps but the one that is named.
func TestDeskStepsJustThatHostSoOften(t *testing.T) {
	for host := range impl.MaxHosts {
		other := (host + 1) % impl.MaxHosts
		for steps := range 9 {
			k := &talk{}
			k.up(host)
			k.up(other)
			k.lets(host, fmt.Sprintf("hold %d 1", host), fmt.Sprintf("take %d 2", host))
			k.all("0", fmt.Sprintf("create %d 1", host), fmt.Sprintf("hold %d 0", other))
			k.say(fmt.Sprintf("step %d %d", host, steps), "0")
			if steps < 5 {
				k.say("vol 1", "off")
			} else {
				k.say("vol 1", "on - - - -")
			}
			k.say(fmt.Sprintf("step %d %d", host, 8-steps), "0")
			k.say(fmt.Sprintf("step %d 1", host), "1")
			k.say(fmt.Sprintf("step %d 1", other), "1")
			k.want(t, fmt.Sprintf("host %d, %d steps", host, steps))
		}
	}
}

func TestDeskTellsTheCodeOfAnAct(t *testing.T) {
	k := &talk{}
	k.all("3", "crash 0", "crash 1", "crash 2")
	k.all("2", "crash 3", "crash -1", "rise 3", "rise -1", "land 0", "land -1", "land 1", "lose 0", "lose -1", "lose 39")
	k.all("0", "rise 2", "crash 2", "rise 2")
	k.all("3", "rise 2", "crash 1", "crash 0")
	k.all("0", "rise 0", "crash 0", "crash 2")
	k.all("3", "crash 0", "crash 2")
	k.want(t, "falls and rises")
	k = busyTalk()
	k.say("lose 0", "3")
	k.all("2", "lose 1", "land 1", "lose -1", "land -1")
	k.say("land 0", "0")
	k.all("2", "land 0", "lose 0")
	k.say("step 0 2", "0")
	k.say("lose 0", "3")
	k.say("crash 0", "0")
	k.say("lose 0", "0")
	k.all("2", "lose 0", "land 0")
	k.all("on - 6f6e65 - ff7300", "vol 0", "vol 1")
	k.want(t, "a journal is lost")
	k = busyTalk()
	k.say("step 0 2", "0")
	k.say("crash 0", "0")
	k.say("land 0", "0")
	k.say("land 0", "2")
	k.say("vol 0", "on 68616c66 6f6e65 - ff7300")
	k.say("vol 1", "on - 6f6e65 - ff7300")
	k.want(t, "a journal lands")
}

// hostCalls is a line for each call of a host.
func hostCalls(host int) []string {
	var out []string
	for _, line := range []string{"create H 0", "delete H 0", "hold H 0", "drop H 0", "take H 0", "give H 0", "write H 0 0 x", "discard H 0 0", "read H 0 0", "snap H 0 1", "drain H"} {
		out = append(out, strings.Replace(line, "H", fmt.Sprint(host), 1))
	}
	return append(out, fmt.Sprintf("recover %d %d", host, (host+1)%impl.MaxHosts))
}

func TestDeskTellsTheCodeOfACall(t *testing.T) {
	for host := range impl.MaxHosts {
		down, busy, free := &talk{}, &talk{}, &talk{}
		busy.say(fmt.Sprint("rise ", host), "0")
		free.up(host)
		for _, call := range hostCalls(host) {
			down.say(call, "3")
			busy.say(call, "3")
			free.say(call, "0")
			free.say(call, "3")
			free.say(fmt.Sprintf("step %d 14", host), "1")
		}
		self := fmt.Sprintf("recover %d %d", host, host)
		free.say(self, "3")
		down.want(t, "a host that is not up")
		busy.want(t, "a host that is busy")
		free.want(t, "a host that is free, and then is not")
	}
	for _, host := range []int{-1, impl.MaxHosts, 99} {
		k := &talk{}
		k.all("2", hostCalls(host)...)
		k.want(t, fmt.Sprint("there is no host ", host))
	}
}

// Each bound of what a call names, met and passed by one.
func TestDeskTellsWhatIsNoCall(t *testing.T) {
	k := &talk{}
	k.up(0)
	for _, word := range []string{"create", "delete", "hold", "drop"} {
		k.all("3", word+" 0 -1", word+" 0 4")
		k.say(word+" 0 3", "0")
		k.say("step 0 9", "1")
	}
	for _, word := range []string{"take", "give", "recover"} {
		k.all("3", word+" 0 -1", word+" 0 3")
		k.say(word+" 0 2", "0")
		k.say("step 0 14", "1")
	}
	for _, line := range []string{"discard 0 ", "read 0 ", "write 0 "} {
		text := map[bool]string{true: " x", false: ""}[line == "write 0 "]
		k.all("3", line+"-1 0"+text, line+"4 0"+text, line+"0 -1"+text, line+"0 4"+text)
		k.say(line+"3 3"+text, "0")
		k.say("step 0 9", "1")
	}
	k.all("3", "snap 0 -1 0", "snap 0 4 0", "snap 0 0 -1", "snap 0 0 4", "snap 0 0 0", "snap 0 3 3")
	k.say("snap 0 3 0", "0")
	k.say("step 0 9", "1")
	k.all("3", "recover 0 0", "write 0 0 0 "+strings.Repeat("x", impl.MaxBlock+1), "write 0 0 0 "+strings.Repeat("x", 19000))
	k.say("write 0 0 0 "+strings.Repeat("x", impl.MaxBlock), "0")
	k.want(t, "bounds")
}

// What each call comes to tells it from all others.
func TestDeskDoesEachCall(t *testing.T) {
	k := &talk{}
	k.up(0)
	k.up(1)
	k.ask(0, "create 0 2", "2 ")
	k.ask(0, "drop 0 2", "2 ")
	k.ask(0, "hold 0 2", "0 ")
	k.ask(1, "hold 1 2", "5 ")
	k.ask(0, "delete 0 2", "3 ")
	k.ask(0, "create 0 2", "0 ")
	k.ask(0, "create 0 2", "3 ")
	k.ask(0, "write 0 2 3 abc", "4 ")
	k.ask(0, "give 0 1", "2 ")
	k.ask(0, "take 0 1", "0 ")
	k.ask(1, "take 1 1", "5 ")
	k.ask(0, "write 0 2 3 abc", "0 ")
	k.say("vol 2", "on - - - 616263")
	k.ask(0, "read 0 2 3", "0 616263")
	k.ask(0, "read 0 2 0", "0 ")
	k.ask(0, "snap 0 2 1", "2 ")
	k.lets(0, "hold 0 1", "snap 0 2 1")
	k.ask(0, "snap 0 2 1", "3 ")
	k.say("vol 1", "on - - - 616263")
	k.ask(0, "discard 0 2 3", "0 ")
	k.say("vol 2", "on - - - -")
	k.lets(0, "drain 0", "give 0 1", "delete 0 1")
	k.say("vol 1", "off")
	k.lets(0, "drain 0", "take 0 1", "drain 0", "drop 0 2")
	k.lets(1, "hold 1 2", "recover 1 2", "recover 1 0")
	k.say("step 0 5", "0")
	k.all("3", "crash 2")
	k.say("crash 0", "0")
	k.lets(1, "take 1 1", "hold 1 1")
	k.say("truth", "yes")
	k.want(t, "each call")
}

// A reply tells the code that no place is left among the blocks that were freed.
func TestDeskTellsThatFreesAreFull(t *testing.T) {
	k := &talk{}
	k.up(0)
	ask := func(line string) {
		k.say(line, "0")
		k.say("step 0 9", "1")
	}
	for _, line := range []string{"hold 0 0", "create 0 0"} {
		ask(line)
	}
	// Of both groups six blocks are written, and let go of while the group is given back.
	for group := range 2 {
		for _, places := range []int{4, 2} {
			ask(fmt.Sprint("take 0 ", group))
			for at := range places {
				ask(fmt.Sprintf("write 0 0 %d x", at))
			}
			ask(fmt.Sprint("give 0 ", group))
			for at := range places {
				ask(fmt.Sprintf("discard 0 0 %d", at))
			}
		}
	}
	for _, line := range []string{"take 0 2", "write 0 0 3 last", "give 0 2"} {
		ask(line)
	}
	k.say("reply", "0 ")
	ask("discard 0 0 3")
	k.say("reply", "6 ")
	k.say("vol 0", "on - - - 6c617374")
	ask("take 0 0")
	ask("drain 0")
	ask("discard 0 0 3")
	k.say("reply", "0 ")
	k.say("vol 0", "on - - - -")
	k.say("truth", "yes")
	k.want(t, "twelve blocks were freed")
}

func TestDeskReplyTellsTheLastOne(t *testing.T) {
	k := busyTalk()
	k.say("reply", "0 ")
	k.say("step 0 7", "1")
	for _, texts := range [][2]string{{"a", "61"}, {"\x00", "00"}, {"\xff\xfe\r\t", "fffe0d09"}, {"0123456789abcdef", "30313233343536373839616263646566"}, {"", ""}, {"-", "2d"}, {"none", "6e6f6e65"}} {
		k.ask(0, "write 0 0 2 "+texts[0], "0 ")
		k.ask(0, "read 0 0 2", "0 "+texts[1])
		k.say("reply", "0 "+texts[1])
		k.say("crash 1", "0")
		k.say("rise 1", "0")
		k.say("reply", "0 "+texts[1])
	}
	k.ask(0, "read 0 0 1", "0 6f6e65")
	k.say("step 1 11", "1")
	k.say("reply", "0 ")
	k.ask(1, "read 1 0 1", "2 ")
	k.ask(0, "read 0 3 1", "2 ")
	k.want(t, "replies")
}

func TestDeskVolTellsWhatTheDiskSays(t *testing.T) {
	k := &talk{}
	k.all("off", "vol 0", "vol 1", "vol 2", "vol 3")
	k.all("none", "vol 4", "vol -1", "vol 5", "vol 999999999")
	k.up(2)
	k.lets(2, "hold 2 3", "hold 2 0", "take 2 0", "create 2 3")
	k.say("vol 3", "on - - - -")
	k.lets(2, "write 2 3 0 a", "write 2 3 3 0123456789abcdef")
	k.say("vol 3", "on 61 - - 30313233343536373839616263646566")
	k.lets(2, "write 2 3 1 ", "write 2 3 2 -")
	k.say("vol 3", "on 61  2d 30313233343536373839616263646566")
	k.lets(2, "write 2 3 3 ", "discard 2 3 0")
	k.say("vol 3", "on -  2d ")
	k.lets(2, "snap 2 3 0", "write 2 3 0 ", "discard 2 3 2")
	k.say("vol 0", "on -  2d ")
	k.say("vol 3", "on   - ")
	k.all("off", "vol 1", "vol 2")
	k.lets(2, "delete 2 3")
	k.say("vol 3", "off")
	k.say("vol 0", "on -  2d ")
	k.lets(2, "create 2 3")
	k.say("vol 3", "on - - - -")
	k.want(t, "volumes")
}
