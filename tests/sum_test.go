package tests

import (
	"math/rand"
	"strings"
	"testing"

	"loop.example/g00761/impl"
)

// slowCrc is the chapter's own words, halving by halving, so that no table stands behind it.
func slowCrc(s string) int {
	c := 4294967295
	for i := range len(s) {
		c ^= int(s[i])
		for range 8 {
			odd := c%2 == 1
			c /= 2
			if odd {
				c ^= 2197175160
			}
		}
	}
	return 4294967295 - c
}

func wantCrc(t *testing.T, s string, want int) {
	t.Helper()
	if got := impl.Crc(s); got != want {
		t.Errorf("Crc(%q) is %d, not %d", s, got, want)
	}
}

// sumTexts are texts of several lengths: noughts, ones, bytes that rise, and mixed ones.
func sumTexts() []string {
	r := rand.New(rand.NewSource(2))
	var out []string
	for _, n := range []int{1, 2, 3, 4, 5, 8, 9, 16, 33, 60} {
		rising, mixed := make([]byte, n), make([]byte, n)
		for i := range n {
			rising[i] = byte(i)
			mixed[i] = byte(r.Intn(256))
		}
		out = append(out, strings.Repeat("\x00", n), strings.Repeat("\xff", n), string(rising), string(mixed))
	}
	return out
}

func TestCrcOfKnownTexts(t *testing.T) {
	wantCrc(t, "123456789", 3808858755)
	wantCrc(t, strings.Repeat("\x00", 32), 2324772522)
	wantCrc(t, strings.Repeat("\xff", 32), 1655221059)
}

func TestCrcOfNoBytes(t *testing.T) {
	wantCrc(t, "", 0)
	wantCrc(t, "", slowCrc(""))
}

func TestCrcOfOneByte(t *testing.T) {
	seen := map[int]int{}
	for b := range 256 {
		s := string([]byte{byte(b)})
		wantCrc(t, s, slowCrc(s))
		if other, twice := seen[impl.Crc(s)]; twice {
			t.Errorf("bytes %d and %d have one sum", other, b)
		}
		seen[impl.Crc(s)] = b
	}
}

func TestCrcOfEachByteAtEachPlace(t *testing.T) {
	for _, text := range sumTexts() {
		wantCrc(t, text, slowCrc(text))
		for b := range 256 {
			for _, at := range []int{0, len(text) / 2, len(text) - 1} {
				turned := []byte(text)
				turned[at] = byte(b)
				wantCrc(t, string(turned), slowCrc(string(turned)))
			}
			wantCrc(t, string([]byte{byte(b)})+text, slowCrc(string([]byte{byte(b)})+text))
			wantCrc(t, text+string([]byte{byte(b)}), slowCrc(text+string([]byte{byte(b)})))
		}
	}
}

func TestCrcOfNoughtsTellsTheirLength(t *testing.T) {
	seen := map[int]int{}
	for n := range 1500 {
		s := strings.Repeat("\x00", n)
		got := impl.Crc(s)
		if got != slowCrc(s) {
			t.Errorf("Crc of %d noughts is %d, not %d", n, got, slowCrc(s))
		}
		if other, twice := seen[got]; twice {
			t.Errorf("%d and %d noughts have one sum", other, n)
		}
		seen[got] = n
	}
}

func TestCrcTellsOneTurnedByte(t *testing.T) {
	for _, text := range sumTexts() {
		sum := impl.Crc(text)
		for at := range len(text) {
			for b := range 256 {
				turned := []byte(text)
				turned[at] = byte(b)
				if string(turned) != text && impl.Crc(string(turned)) == sum {
					t.Fatalf("%q and %q have one sum", text, turned)
				}
			}
		}
	}
}

func TestCrcIsFourBytesWide(t *testing.T) {
	r := rand.New(rand.NewSource(3))
	for range 3000 {
		text := make([]byte, r.Intn(900))
		for i := range text {
			text[i] = byte(r.Intn(256))
		}
		got := impl.Crc(string(text))
		if got != slowCrc(string(text)) || got < 0 || got > 4294967295 {
			t.Fatalf("Crc(%q) is %d, not %d", text, got, slowCrc(string(text)))
		}
	}
}
