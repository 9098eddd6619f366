package tests

import (
	"math"
	"math/rand"
	"strconv"
	"strings"
	"testing"

	"loop.example/g00761/impl"
)

// What stands behind a number must not matter, so every reading is tried with each of these.
var behind = []string{"", "\x00", "\x80", "\xff\xff", "0", "9", "a", " ", "-1", "\x01\x02\x03\x04\x05\x06\x07\x08"}

// edgeInts are numbers at and beside every bound that the chapter names, and some far from all of them.
func edgeInts() []int {
	out := []int{math.MinInt, math.MinInt + 1, math.MaxInt, math.MaxInt - 1, 120, 258, 300}
	for shift := range 63 {
		p := 1 << shift
		out = append(out, p-1, p, p+1, -p-1, -p, -p+1)
	}
	ten := 1
	for range 19 {
		out = append(out, ten-1, ten, ten+1, -ten-1, -ten, -ten+1)
		ten *= 10
	}
	r := rand.New(rand.NewSource(1))
	for range 2000 {
		n := int(r.Uint64()) >> r.Intn(64)
		out = append(out, n)
	}
	return out
}

func wantFixed(t *testing.T, n int, width int, want string) {
	t.Helper()
	if got := impl.Fixed(n, width); got != want {
		t.Errorf("Fixed(%d, %d) is %q, not %q", n, width, got, want)
	}
}

func wantReadFixed(t *testing.T, s string, width int, want int, wantOk bool) {
	t.Helper()
	if n, ok := impl.ReadFixed(s, width); n != want || ok != wantOk {
		t.Errorf("ReadFixed(%q, %d) is %d %v, not %d %v", s, width, n, ok, want, wantOk)
	}
}

func wantReadVar(t *testing.T, s string, want int, wantLen int) {
	t.Helper()
	if n, k := impl.ReadVar(s); n != want || k != wantLen {
		t.Errorf("ReadVar(%q) is %d %d, not %d %d", s, n, k, want, wantLen)
	}
}

func wantUnhex(t *testing.T, s string, want string, wantOk bool) {
	t.Helper()
	if got, ok := impl.Unhex(s); got != want || ok != wantOk {
		t.Errorf("Unhex(%q) is %q %v, not %q %v", s, got, ok, want, wantOk)
	}
}

func wantReadDec(t *testing.T, s string, want int, wantOk bool) {
	t.Helper()
	if n, ok := impl.ReadDec(s); n != want || ok != wantOk {
		t.Errorf("ReadDec(%q) is %d %v, not %d %v", s, n, ok, want, wantOk)
	}
}

func TestFixedIsHighestByteFirst(t *testing.T) {
	wantFixed(t, 0, 1, "\x00")
	wantFixed(t, 0, 7, "\x00\x00\x00\x00\x00\x00\x00")
	wantFixed(t, 1, 3, "\x00\x00\x01")
	wantFixed(t, 258, 2, "\x01\x02")
	wantFixed(t, 0x01020304050607, 7, "\x01\x02\x03\x04\x05\x06\x07")
}

func TestFixedAtItsBounds(t *testing.T) {
	for width := 1; width <= 7; width++ {
		limit := 1 << (8 * width)
		wantFixed(t, limit-1, width, strings.Repeat("\xff", width))
		wantFixed(t, limit, width, "")
		wantFixed(t, limit+1, width, "")
		wantFixed(t, math.MaxInt, width, "")
		wantFixed(t, -1, width, "")
		wantFixed(t, math.MinInt, width, "")
	}
}

func TestFixedOfNoWidth(t *testing.T) {
	for _, width := range []int{math.MinInt, -8, -1, 0, 8, 9, 64, math.MaxInt} {
		for _, n := range []int{math.MinInt, -1, 0, 1, 255, math.MaxInt} {
			wantFixed(t, n, width, "")
		}
		for _, s := range []string{"", "a", "abcdefgh", "abcdefghijklmnop"} {
			wantReadFixed(t, s, width, 0, false)
		}
	}
}

func TestReadFixedReadsJustTheWidth(t *testing.T) {
	wantReadFixed(t, "\x01\x02\x03", 1, 1, true)
	wantReadFixed(t, "\x01\x02\x03", 2, 258, true)
	wantReadFixed(t, "\x01\x02\x03", 3, 66051, true)
	wantReadFixed(t, "\x01\x02\x03", 4, 0, false)
	wantReadFixed(t, "\xff\xff\xff\xff\xff\xff\xff\xff", 7, 1<<56-1, true)
	for width := 1; width <= 7; width++ {
		wantReadFixed(t, "", width, 0, false)
		wantReadFixed(t, strings.Repeat("\xff", width-1), width, 0, false)
		wantReadFixed(t, strings.Repeat("\xff", width), width, 1<<(8*width)-1, true)
	}
}

func TestReadFixedOfFixed(t *testing.T) {
	for _, n := range edgeInts() {
		for width := 1; width <= 7; width++ {
			s := impl.Fixed(n, width)
			if fits := n >= 0 && n < 1<<(8*width); !fits {
				wantFixed(t, n, width, "")
				continue
			}
			if len(s) != width {
				t.Fatalf("Fixed(%d, %d) has %d bytes", n, width, len(s))
			}
			for _, b := range behind {
				wantReadFixed(t, s+b, width, n, true)
			}
		}
	}
}

func TestVarIsLowestBitsFirst(t *testing.T) {
	for n, want := range map[int]string{
		0:               "\x00",
		1:               "\x01",
		127:             "\x7f",
		128:             "\x80\x01",
		255:             "\xff\x01",
		300:             "\xac\x02",
		16383:           "\xff\x7f",
		16384:           "\x80\x80\x01",
		impl.MaxVar:     "\xff\xff\xff\xff\xff\xff\x7f",
		impl.MaxVar - 1: "\xfe\xff\xff\xff\xff\xff\x7f",
	} {
		if got := impl.Var(n); got != want {
			t.Errorf("Var(%d) is %q, not %q", n, got, want)
		}
	}
}

func TestVarOutOfRange(t *testing.T) {
	for _, n := range []int{-1, -128, math.MinInt, impl.MaxVar + 1, impl.MaxVar + 2, math.MaxInt} {
		if got := impl.Var(n); got != "" {
			t.Errorf("Var(%d) is %q", n, got)
		}
	}
}

func TestReadVarOfVar(t *testing.T) {
	for _, n := range edgeInts() {
		s := impl.Var(n)
		if n < 0 || n > impl.MaxVar {
			if s != "" {
				t.Errorf("Var(%d) is %q", n, s)
			}
			continue
		}
		for _, b := range behind {
			wantReadVar(t, s+b, n, len(s))
		}
		for k := range len(s) {
			wantReadVar(t, s[:k], 0, 0)
		}
	}
}

func TestReadVarOfNone(t *testing.T) {
	for _, s := range []string{
		"", "\x80", "\xff", "\xff\xff\xff\xff\xff\xff", "\xff\xff\xff\xff\xff\xff\xff",
		"\x80\x00", "\x81\x00", "\xff\x00", "\xac\x82\x00", "\x80\x80\x00z", "\x80\x00\x01",
		"\x80\x80\x80\x80\x80\x80\x00", "\xff\xff\xff\xff\xff\xff\x00",
		"\x80\x80\x80\x80\x80\x80\x80\x01", "\xff\xff\xff\xff\xff\xff\xff\x01", "\x80\x80\x80\x80\x80\x80\x80\x00",
		strings.Repeat("\x80", 9) + "\x01", strings.Repeat("\xff", 9) + "\x01", strings.Repeat("\x80", 100),
	} {
		wantReadVar(t, s, 0, 0)
	}
}

// What is taken must be what Var makes, whatever the text: each text of one or two bytes, and many longer ones.
func TestReadVarTakesJustVars(t *testing.T) {
	check := func(s string) {
		n, k := impl.ReadVar(s)
		if k == 0 {
			if n != 0 {
				t.Errorf("ReadVar(%q) is %d beside no bytes", s, n)
			}
			for cut := 1; cut <= len(s); cut++ {
				if isVar(s[:cut]) {
					t.Errorf("ReadVar(%q) passes over the Var %q", s, s[:cut])
				}
			}
			return
		}
		if k < 0 || k > len(s) || impl.Var(n) != s[:k] {
			t.Errorf("ReadVar(%q) is %d %d, whose Var is %q", s, n, k, impl.Var(n))
		}
	}
	for a := range 256 {
		check(string([]byte{byte(a)}))
		for b := range 256 {
			check(string([]byte{byte(a), byte(b)}))
		}
	}
	r := rand.New(rand.NewSource(2))
	for range 20000 {
		s := make([]byte, r.Intn(11))
		for i := range s {
			s[i] = byte(r.Intn(4)) * 127
			if r.Intn(3) > 0 {
				s[i] |= 128
			}
		}
		check(string(s))
	}
}

// isVar tells by the document's words alone, not by ReadVar, whether s is the Var of some number.
func isVar(s string) bool {
	if len(s) < 1 || len(s) > 7 || len(s) > 1 && s[len(s)-1] == 0 {
		return false
	}
	for i := range len(s) {
		if (s[i] >= 128) != (i < len(s)-1) {
			return false
		}
	}
	return true
}

func TestHexOfEachByte(t *testing.T) {
	for b := range 256 {
		want := strconv.FormatInt(int64(b), 16)
		if b < 16 {
			want = "0" + want
		}
		s := string([]byte{byte(b)})
		if got := impl.Hex(s); got != want {
			t.Errorf("Hex(%q) is %q, not %q", s, got, want)
		}
		wantUnhex(t, want, s, true)
	}
}

func TestHexOfTexts(t *testing.T) {
	if got := impl.Hex("a\xff\x00Z"); got != "61ff005a" {
		t.Errorf("Hex is %q", got)
	}
	if got := impl.Hex(""); got != "" {
		t.Errorf("Hex of nothing is %q", got)
	}
	wantUnhex(t, "", "", true)
	wantUnhex(t, "61ff005a", "a\xff\x00Z", true)
	r := rand.New(rand.NewSource(3))
	for range 2000 {
		b := make([]byte, r.Intn(40))
		r.Read(b)
		h := impl.Hex(string(b))
		if len(h) != 2*len(b) {
			t.Fatalf("Hex(%q) has %d bytes", b, len(h))
		}
		wantUnhex(t, h, string(b), true)
	}
}

func TestUnhexOfNone(t *testing.T) {
	for _, s := range []string{
		"0", "f", "6", "61f", "616", "6F", "F6", "AB", "aB", "Ab", "0g", "g0", "6-", "-6", " 6", "6 ", "0x",
		"61 6", "61ff6G", "\x00\x00", "\xff\xff", "6\x00", "\n0", "61\n", "/0", ":0", "`0", "é",
	} {
		wantUnhex(t, s, "", false)
	}
}

// Each text of two bytes is taken just where Hex makes it.
func TestUnhexTakesJustHex(t *testing.T) {
	const digits = "0123456789abcdef"
	for a := range 256 {
		for b := range 256 {
			s := string([]byte{byte(a), byte(b)})
			high, low := strings.IndexByte(digits, byte(a)), strings.IndexByte(digits, byte(b))
			if high < 0 || low < 0 {
				wantUnhex(t, s, "", false)
				wantUnhex(t, "00"+s, "", false)
				continue
			}
			wantUnhex(t, s, string([]byte{byte(16*high + low)}), true)
		}
	}
}

func TestDec(t *testing.T) {
	for n, want := range map[int]string{
		0: "0", 1: "1", -1: "-1", 9: "9", 10: "10", -10: "-10", 120: "120", -120: "-120",
		999999999: "999999999", 1000000000: "1000000000", -999999999: "-999999999", -1000000000: "-1000000000",
		math.MaxInt: "9223372036854775807", math.MaxInt - 1: "9223372036854775806",
		math.MinInt: "-9223372036854775808", math.MinInt + 1: "-9223372036854775807",
	} {
		if got := impl.Dec(n); got != want {
			t.Errorf("Dec(%d) is %q", n, got)
		}
	}
	for _, n := range edgeInts() {
		if got, want := impl.Dec(n), strconv.FormatInt(int64(n), 10); got != want {
			t.Errorf("Dec is %q, not %q", got, want)
		}
	}
}

func TestReadDecOfDec(t *testing.T) {
	for _, n := range edgeInts() {
		s := impl.Dec(n)
		if n < -999999999 || n > 999999999 {
			wantReadDec(t, s, 0, false)
			continue
		}
		wantReadDec(t, s, n, true)
	}
	wantReadDec(t, "999999999", 999999999, true)
	wantReadDec(t, "-999999999", -999999999, true)
	wantReadDec(t, "100000000", 100000000, true)
	wantReadDec(t, "0", 0, true)
}

func TestReadDecOfNone(t *testing.T) {
	for _, s := range []string{
		"", "-", "--", "-0", "+0", "+1", "-+1", "+-1", "--1", "00", "01", "-01", "-00", "000000001", "0000000000",
		" ", " 1", "1 ", "- 1", "-1 ", "1 2", "1-", "1-2", "1\n", "\n1", "\t1", "1\x00", "\x001",
		"a", "1a", "a1", "0x1", "1e3", "1.0", "1_0", "0b1", "/", ":", "1/", "1:", "１", "٣",
		"1000000000", "-1000000000", "9999999999", "0999999999", "-0999999999",
		"9223372036854775807", "-9223372036854775808", "18446744073709551617", strings.Repeat("9", 1000), strings.Repeat("0", 1000),
	} {
		wantReadDec(t, s, 0, false)
	}
}

// What ReadDec takes is what Dec makes of what it answers: each text of one to three bytes of a small alphabet and its neighbours.
func TestReadDecTakesJustDec(t *testing.T) {
	const alphabet = "0123456789-+ /:a\x00\xff"
	check := func(s string) {
		n, ok := impl.ReadDec(s)
		m, err := strconv.Atoi(s)
		if want := err == nil && strconv.Itoa(m) == s; ok != want || ok && n != m || !ok && n != 0 {
			t.Errorf("ReadDec(%q) is %d %v", s, n, ok)
		}
	}
	for _, a := range []byte(alphabet) {
		check(string([]byte{a}))
		for _, b := range []byte(alphabet) {
			check(string([]byte{a, b}))
			for _, c := range []byte(alphabet) {
				check(string([]byte{a, b, c}))
			}
		}
	}
}
