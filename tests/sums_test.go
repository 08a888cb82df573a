package tests

import (
	"strings"
	"testing"

	"loop.example/g00290/impl"
)

// plainSum works a sum out halving by halving, as the chapter says it.
func plainSum(sum uint32, text string) uint32 {
	for i := 0; i < len(text); i++ {
		sum ^= uint32(text[i])
		for range 8 {
			odd := sum%2 == 1
			sum /= 2
			if odd {
				sum ^= 3558460437
			}
		}
	}
	return sum
}

// sumStarts are sums to go on from: the ends of the range, and each bit alone.
func sumStarts() []uint32 {
	starts := []uint32{0, 4294967295, 3558460437, 305419896}
	for bit := range 32 {
		starts = append(starts, 1<<bit)
	}
	return starts
}

// textWithSum are texts with sums that were worked out apart from the program: some at the ends of the range, and one whose four bytes all differ.
var textWithSum = []struct {
	text string
	sum  uint32
}{
	{"", 4294967295},
	{"\x5d\x1b\x5f\x75", 4294967295},
	{"\xff\xff\xff\xff", 0},
	{"\x2d\x2f\xfd\xaa", 0x01020304},
	{"\x00", 2175125468}, {"\x01", 2859997075}, {"\x7f", 3571856362}, {"\x80", 1438387145}, {"\xff", 16777215},
	{"a", 2675860630}, {"abc", 2815232641}, {"123456789", 2026809993},
	{"abcdefghijklmnopqrstuvwxyz", 3206921945}, {"\x00\x00\x00\x00", 1160185169},
}

func TestSumOfKnownTexts(t *testing.T) {
	for _, c := range textWithSum {
		if got := impl.SumOf(c.text); got != c.sum {
			t.Errorf("SumOf(%q) = %d; want %d", c.text, got, c.sum)
		}
		if got := impl.SumMore(4294967295, c.text); got != c.sum {
			t.Errorf("SumMore(4294967295, %q) = %d; want %d", c.text, got, c.sum)
		}
	}
}

func TestSumMoreKnownTexts(t *testing.T) {
	for _, c := range []struct {
		sum  uint32
		text string
		want uint32
	}{
		{0, "", 0}, {7, "", 7}, {0, "\x00", 0}, {0, "\x00\x00\x00\x00\x00", 0},
		{0, "\x01", 735957071}, {0, "\x7f", 1430516790}, {0, "\x80", 3558460437}, {0, "\xff", 2170173475},
		{0, "abc", 157603473}, {128, "\x00", 3558460437}, {128, "\x80", 0}, {255, "\xff", 0}, {256, "\x00", 1},
		{0, "\xff\xff\xff\xff", 1160185169}, {4294967295, "\xff\xff\xff\xff", 0},
	} {
		if got := impl.SumMore(c.sum, c.text); got != c.want {
			t.Errorf("SumMore(%d, %q) = %d; want %d", c.sum, c.text, got, c.want)
		}
	}
}

func TestSumMoreOfEveryByte(t *testing.T) {
	for _, start := range sumStarts() {
		for b := range 256 {
			text := string([]byte{byte(b)})
			if got, want := impl.SumMore(start, text), plainSum(start, text); got != want {
				t.Fatalf("SumMore(%d, %q) = %d; want %d", start, text, got, want)
			}
		}
	}
}

func TestSumMoreOfLongTexts(t *testing.T) {
	for _, size := range []int{2, 3, 4, 5, 100, impl.MaxText, impl.MaxText + 1, 3 * impl.MaxText} {
		text := anyBytes(size)
		for _, start := range []uint32{0, 1, 4294967295} {
			if got, want := impl.SumMore(start, text), plainSum(start, text); got != want {
				t.Errorf("SumMore(%d, %d bytes) = %d; want %d", start, size, got, want)
			}
		}
	}
}

func TestSumMoreGoesOnWhereItStopped(t *testing.T) {
	text := anyBytes(300)
	for cut := 0; cut <= len(text); cut++ {
		if got, want := impl.SumMore(impl.SumOf(text[:cut]), text[cut:]), impl.SumOf(text); got != want {
			t.Fatalf("cut at %d: SumMore of SumOf = %d; want %d", cut, got, want)
		}
		for _, start := range sumStarts() {
			got := impl.SumMore(impl.SumMore(start, text[:cut]), text[cut:])
			if want := impl.SumMore(start, text); got != want {
				t.Fatalf("cut at %d, from %d: %d; want %d", cut, start, got, want)
			}
		}
	}
}

// sealOf is a text with its sum behind it, worked out here.
func sealOf(text string) string {
	sum := plainSum(4294967295, text)
	return text + string([]byte{byte(sum >> 24), byte(sum >> 16 & 255), byte(sum >> 8 & 255), byte(sum & 255)})
}

// sealable are texts that may be sealed, the longest among them.
func sealable() []string {
	texts := []string{anyBytes(impl.MaxText), anyBytes(impl.MaxText - 1), anyBytes(256), "\x00abc\x00", "ab\nc"}
	for _, c := range textWithSum {
		texts = append(texts, c.text)
	}
	return texts
}

func TestSealedPutsTheHighestByteFirst(t *testing.T) {
	for _, c := range []struct{ text, want string }{
		{"", "\xff\xff\xff\xff"},
		{"abc", "abc\xa7\xcd\x0a\x81"},
		{"\x2d\x2f\xfd\xaa", "\x2d\x2f\xfd\xaa\x01\x02\x03\x04"},
		{"\xff\xff\xff\xff", "\xff\xff\xff\xff\x00\x00\x00\x00"},
		{"\xff", "\xff\x00\xff\xff\xff"},
	} {
		if got, ok := impl.Sealed(c.text); got != c.want || !ok {
			t.Errorf("Sealed(%q) = %q, %v; want %q", c.text, got, ok, c.want)
		}
	}
}

func TestSealedIsUnsealed(t *testing.T) {
	for _, text := range sealable() {
		sealed, ok := impl.Sealed(text)
		if !ok || sealed != sealOf(text) {
			t.Errorf("Sealed of %d bytes is %v or another text", len(text), ok)
		}
		if got, ok := impl.Unsealed(sealed); got != text || !ok {
			t.Errorf("Unsealed(Sealed) of %d bytes: %d bytes, %v", len(text), len(got), ok)
		}
	}
}

// refusesSeal asks that a text be Unsealed as nothing.
func refusesSeal(t *testing.T, text string) {
	t.Helper()
	if got, ok := impl.Unsealed(text); got != "" || ok {
		t.Errorf("Unsealed of %d bytes = %d bytes, %v; want nothing", len(text), len(got), ok)
	}
}

func TestTextsTooLongAreNotSealed(t *testing.T) {
	for _, size := range []int{impl.MaxText + 1, impl.MaxText + 4, 2 * impl.MaxText} {
		if got, ok := impl.Sealed(anyBytes(size)); got != "" || ok {
			t.Errorf("Sealed of %d bytes = %d bytes, %v; want nothing", size, len(got), ok)
		}
		refusesSeal(t, sealOf(anyBytes(size)))
	}
}

func TestTextsTooShortAreNotUnsealed(t *testing.T) {
	for size := range 4 {
		refusesSeal(t, strings.Repeat("\xff", size))
		refusesSeal(t, strings.Repeat("\x00", size))
		refusesSeal(t, sealOf("")[size+1:])
	}
}

func TestTurnedBytesAreNotUnsealed(t *testing.T) {
	for _, text := range []string{"", "a", "abc", "\xff\xff\xff\xff", "\x5d\x1b\x5f\x75", anyBytes(60)} {
		sealed, _ := impl.Sealed(text)
		for at := range len(sealed) {
			for turn := 1; turn < 256; turn++ {
				turned := []byte(sealed)
				turned[at] ^= byte(turn)
				refusesSeal(t, string(turned))
			}
		}
	}
}

func TestTurnedBytesOfTheLongestTextAreNotUnsealed(t *testing.T) {
	sealed, _ := impl.Sealed(anyBytes(impl.MaxText))
	for _, at := range []int{0, 1, 255, 256, 9999, impl.MaxText - 1, impl.MaxText, impl.MaxText + 3} {
		for _, turn := range []byte{1, 2, 127, 128, 255} {
			turned := []byte(sealed)
			turned[at] ^= turn
			refusesSeal(t, string(turned))
		}
	}
}

func TestSumsInAnotherOrderAreNotUnsealed(t *testing.T) {
	const text = "\x2d\x2f\xfd\xaa"
	orders := 0
	for code := range 256 {
		a, b, c, d := code/64, code/16%4, code/4%4, code%4
		if a == b || a == c || a == d || b == c || b == d || c == d {
			continue
		}
		sum := "\x01\x02\x03\x04"
		moved := string([]byte{sum[a], sum[b], sum[c], sum[d]})
		orders++
		if moved != sum {
			refusesSeal(t, text+moved)
		}
	}
	if orders != 24 {
		t.Errorf("%d orders were looked at; want 24", orders)
	}
}

func TestOtherSumsAreNotUnsealed(t *testing.T) {
	sealed, _ := impl.Sealed("abcdef")
	for cut := 1; cut <= len(sealed); cut++ {
		refusesSeal(t, sealed[:len(sealed)-cut])
		refusesSeal(t, sealed[cut:])
	}
	refusesSeal(t, sealed+"\x00")
	refusesSeal(t, "\x00"+sealed)
	refusesSeal(t, "abcdef")
	refusesSeal(t, "\xff\xff\xff\xffabc")
}
