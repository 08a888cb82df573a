package tests

import (
	"math"
	"slices"
	"strings"
	"testing"

	"loop.example/g00290/impl"
)

// numberEdges are numbers on both sides of where VarText grows by a byte, and the ends of its range.
var numberEdges = []int{
	0, 1, 2, 126, 127, 128, 129, 255, 256, 300, 16382, 16383, 16384, 16385,
	2097151, 2097152, 268435455, 268435456, 999999999, impl.MaxNumber,
}

// outOfRange are numbers that no VarText is of.
var outOfRange = []int{-1, -128, math.MinInt, impl.MaxNumber + 1, 1 << 30, 1 << 35, math.MaxInt}

// anyBytes is a text of so many bytes that has every byte there is, when it is long enough.
func anyBytes(size int) string {
	out := make([]byte, size)
	for i := range out {
		out[i] = byte(i * 7)
	}
	return string(out)
}

func TestLimitsAreTheDocuments(t *testing.T) {
	if impl.MaxText != 20000 || impl.MaxNumber != 1000000000 || impl.MaxWords != 600 || impl.MaxParts != 10 {
		t.Error("a limit is not the document's")
	}
}

func TestVarTextWrites(t *testing.T) {
	for _, c := range []struct {
		n    int
		want string
	}{
		{0, "\x00"}, {1, "\x01"}, {127, "\x7f"},
		{128, "\x80\x01"}, {129, "\x81\x01"}, {300, "\xac\x02"}, {16383, "\xff\x7f"},
		{16384, "\x80\x80\x01"}, {2097151, "\xff\xff\x7f"}, {2097152, "\x80\x80\x80\x01"},
		{268435455, "\xff\xff\xff\x7f"}, {268435456, "\x80\x80\x80\x80\x01"},
		{impl.MaxNumber, "\x80\x94\xeb\xdc\x03"},
	} {
		if s, ok := impl.VarText(c.n); s != c.want || !ok {
			t.Errorf("VarText(%d) = %q, %v; want %q", c.n, s, ok, c.want)
		}
	}
}

func TestVarTextRefuses(t *testing.T) {
	for _, n := range outOfRange {
		if s, ok := impl.VarText(n); s != "" || ok {
			t.Errorf("VarText(%d) = %q, %v; want nothing", n, s, ok)
		}
	}
}

// checkVar asks for a number back: alone, and with other bytes around it.
func checkVar(t *testing.T, n int) {
	t.Helper()
	s, ok := impl.VarText(n)
	if !ok {
		t.Fatalf("VarText(%d) is refused", n)
	}
	for _, around := range [][2]string{{"", ""}, {"\x80", "\x00"}, {"ab", "\xff\xff"}} {
		text, at := around[0]+s+around[1], len(around[0])
		got, behind, ok := impl.ReadVar(text, at)
		if got != n || behind != at+len(s) || !ok {
			t.Fatalf("ReadVar(%q, %d) = %d, %d, %v; want %d", text, at, got, behind, ok, n)
		}
	}
}

func TestReadVarReadsBack(t *testing.T) {
	for _, n := range numberEdges {
		checkVar(t, n)
	}
	for n := 0; n < 40000; n++ {
		checkVar(t, n)
	}
	for n := 0; n <= impl.MaxNumber; n += 99991 {
		checkVar(t, n)
	}
}

func refusesVar(t *testing.T, text string, at int) {
	t.Helper()
	if n, behind, ok := impl.ReadVar(text, at); n != 0 || behind != 0 || ok {
		t.Errorf("ReadVar(%q, %d) = %d, %d, %v; want nothing", text, at, n, behind, ok)
	}
}

func TestReadVarRefusesPlaces(t *testing.T) {
	for _, at := range []int{-1, -2, 3, 4, 5, math.MinInt, math.MaxInt} {
		refusesVar(t, "\x01\x02\x03", at)
	}
	for _, at := range []int{-1, 0, 1} {
		refusesVar(t, "", at)
	}
}

func TestReadVarRefusesBytes(t *testing.T) {
	for _, text := range []string{
		// Longer forms: the last byte of several is nothing.
		"\x80\x00", "\x81\x00", "\xff\x00", "\xff\x80\x00", "\x80\x80\x00", "\xac\x82\x00",
		"\x80\x80\x80\x80\x00", "\xff\xff\xff\xff\x00", "\x80\x94\xeb\xdc\x83\x00",
		// The end comes too soon.
		"\x80", "\xff", "\xac", "\x80\x80", "\xff\xff\xff\xff", "\x80\x94\xeb\xdc",
		// Above MaxNumber.
		"\x81\x94\xeb\xdc\x03", "\x80\x95\xeb\xdc\x03", "\xff\xff\xff\xff\x03", "\x80\x80\x80\x80\x04",
		"\xff\xff\xff\xff\x7f", "\x80\x80\x80\x80\x80\x01", "\x80\x94\xeb\xdc\x83\x01",
		strings.Repeat("\x80", 9) + "\x01", strings.Repeat("\xff", 10) + "\x01",
		strings.Repeat("\x80", 300) + "\x01", strings.Repeat("\xff", 300),
	} {
		refusesVar(t, text, 0)
		refusesVar(t, "\x05"+text, 1)
	}
}

// Whatever two bytes there are, what ReadVar reads is what VarText writes, and all of it.
func TestReadVarReadsNothingElse(t *testing.T) {
	for i := 0; i < 65536; i++ {
		text := string([]byte{byte(i / 256), byte(i % 256)})
		n, behind, ok := impl.ReadVar(text, 0)
		if !ok {
			if text[0] < 128 || text[1] < 128 && text[1] > 0 {
				t.Fatalf("ReadVar(%q, 0) is refused", text)
			}
			continue
		}
		if s, ok := impl.VarText(n); !ok || s != text[:behind] {
			t.Fatalf("ReadVar(%q, 0) = %d, %d; its VarText is %q", text, n, behind, s)
		}
	}
}

func TestShortTextWrites(t *testing.T) {
	long := anyBytes(impl.MaxText)
	for _, c := range []struct{ s, want string }{
		{"", "\x00"}, {"a", "\x01a"}, {"\x00\xff\x80", "\x03\x00\xff\x80"},
		{anyBytes(127), "\x7f" + anyBytes(127)}, {anyBytes(128), "\x80\x01" + anyBytes(128)},
		{long, "\xa0\x9c\x01" + long},
	} {
		if s, ok := impl.ShortText(c.s); s != c.want || !ok {
			t.Errorf("ShortText of %d bytes: %v, %d bytes", len(c.s), ok, len(s))
		}
	}
	for _, size := range []int{impl.MaxText + 1, 2 * impl.MaxText} {
		if s, ok := impl.ShortText(anyBytes(size)); s != "" || ok {
			t.Errorf("ShortText of %d bytes is taken", size)
		}
	}
}

func TestReadShortReadsBack(t *testing.T) {
	for _, size := range []int{0, 1, 2, 126, 127, 128, 129, 255, 300, 16383, 16384, impl.MaxText - 1, impl.MaxText} {
		want := anyBytes(size)
		s, _ := impl.ShortText(want)
		for _, around := range [][2]string{{"", ""}, {"\x80", "\x00"}, {"xyz", "more"}} {
			at := len(around[0])
			got, behind, ok := impl.ReadShort(around[0]+s+around[1], at)
			if got != want || behind != at+len(s) || !ok {
				t.Errorf("ReadShort of %d bytes at %d: %d bytes, %d, %v", size, at, len(got), behind, ok)
			}
		}
	}
}

func TestReadShortRefuses(t *testing.T) {
	tooLong, _ := impl.VarText(impl.MaxText + 1)
	longest, _ := impl.VarText(impl.MaxText)
	greatest, _ := impl.VarText(impl.MaxNumber)
	for _, c := range []struct {
		text string
		at   int
	}{
		{"", 0}, {"", -1}, {"", 1}, {"\x01a", -1}, {"\x01a", 2}, {"\x01a", 3}, {"\x01a", math.MinInt}, {"\x01a", math.MaxInt},
		{"\x01", 0}, {"\x02a", 0}, {"\x80", 0}, {"a\x05bcde", 1},
		{"\x80\x00", 0}, {"\x81\x00a", 0},
		{"\x80\x01" + anyBytes(127), 0},
		{longest + anyBytes(impl.MaxText-1), 0},
		{tooLong + anyBytes(impl.MaxText+1), 0}, {tooLong + anyBytes(impl.MaxText+5), 0},
		{greatest, 0}, {greatest + anyBytes(100), 0},
		{"\x81\x94\xeb\xdc\x03" + anyBytes(100), 0}, {strings.Repeat("\xff", 20), 0},
	} {
		if s, behind, ok := impl.ReadShort(c.text, c.at); s != "" || behind != 0 || ok {
			t.Errorf("ReadShort of %d bytes at %d: %d bytes, %d, %v; want nothing", len(c.text), c.at, len(s), behind, ok)
		}
	}
}

func TestHexWrites(t *testing.T) {
	for _, c := range []struct{ text, want string }{
		{"", ""}, {"\x00", "00"}, {"\x0f", "0f"}, {"\xf0", "f0"}, {"\x09\x90\xab\xff", "0990abff"}, {"Go", "476f"}, {"\x12\xcd\xef", "12cdef"},
	} {
		if s, ok := impl.Hex(c.text); s != c.want || !ok {
			t.Errorf("Hex(%q) = %q, %v; want %q", c.text, s, ok, c.want)
		}
	}
	if s, ok := impl.Hex(anyBytes(impl.MaxText + 1)); s != "" || ok {
		t.Error("Hex of one byte more than MaxText is taken")
	}
}

func TestUnhexReadsBack(t *testing.T) {
	for _, size := range []int{0, 1, 2, 255, 256, 257, impl.MaxText - 1, impl.MaxText} {
		text := anyBytes(size)
		s, ok := impl.Hex(text)
		if !ok || len(s) != 2*size {
			t.Fatalf("Hex of %d bytes: %d, %v", size, len(s), ok)
		}
		if back, ok := impl.Unhex(s); back != text || !ok {
			t.Errorf("Unhex of the Hex of %d bytes: %d bytes, %v", size, len(back), ok)
		}
	}
	for b := 0; b < 256; b++ {
		text := string([]byte{byte(b)})
		s, _ := impl.Hex(text)
		if back, ok := impl.Unhex(s); back != text || !ok {
			t.Errorf("Unhex(%q) = %q, %v", s, back, ok)
		}
	}
}

func refusesHex(t *testing.T, text string) {
	t.Helper()
	if s, ok := impl.Unhex(text); s != "" || ok {
		t.Errorf("Unhex of %d bytes, %.8q: %.8q, %v; want nothing", len(text), text, s, ok)
	}
}

func TestUnhexRefuses(t *testing.T) {
	for _, text := range []string{
		"0", "a", "123", "0g", "g0", "0F", "A0", "FF", "aB", "Ab", "00 ", " 00", "0x00", "-1", "12\n0", "00g0", "000G",
		strings.Repeat("0", 2*impl.MaxText+1), strings.Repeat("00", impl.MaxText+1),
		strings.Repeat("00", impl.MaxText-1) + "0x",
	} {
		refusesHex(t, text)
	}
	for b := 0; b < 256; b++ {
		if strings.IndexByte("0123456789abcdef", byte(b)) < 0 {
			refusesHex(t, string([]byte{'0', byte(b)}))
			refusesHex(t, string([]byte{byte(b), '0'}))
		}
	}
}

func TestDecimalWrites(t *testing.T) {
	for _, c := range []struct {
		n    int
		want string
	}{
		{0, "0"}, {1, "1"}, {9, "9"}, {10, "10"}, {100, "100"}, {-1, "-1"}, {-5, "-5"}, {-10, "-10"}, {1234567890, "1234567890"},
		{impl.MaxNumber, "1000000000"}, {impl.MaxNumber + 1, "1000000001"}, {-impl.MaxNumber, "-1000000000"},
		{math.MaxInt, "9223372036854775807"}, {math.MinInt, "-9223372036854775808"}, {math.MinInt + 1, "-9223372036854775807"},
	} {
		if s := impl.Decimal(c.n); s != c.want {
			t.Errorf("Decimal(%d) = %q; want %q", c.n, s, c.want)
		}
	}
}

func checkDecimal(t *testing.T, n int) {
	t.Helper()
	if got, ok := impl.ReadDecimal(impl.Decimal(n)); got != n || !ok {
		t.Fatalf("ReadDecimal(%q) = %d, %v", impl.Decimal(n), got, ok)
	}
}

func TestReadDecimalReadsBack(t *testing.T) {
	for _, n := range numberEdges {
		checkDecimal(t, n)
	}
	for n := 0; n < 20000; n++ {
		checkDecimal(t, n)
	}
	for n := 0; n <= impl.MaxNumber; n += 99991 {
		checkDecimal(t, n)
	}
}

func refusesDecimal(t *testing.T, text string) {
	t.Helper()
	if n, ok := impl.ReadDecimal(text); n != 0 || ok {
		t.Errorf("ReadDecimal(%.30q) = %d, %v; want nothing", text, n, ok)
	}
}

func TestReadDecimalRefuses(t *testing.T) {
	for _, n := range outOfRange {
		refusesDecimal(t, impl.Decimal(n))
	}
	for _, text := range []string{
		"", "-", "-0", "-1", "+1", "+0", "00", "01", "007", "0000000001", " 1", "1 ", "1\n", "1a", "a", "f", "A", "0x1", "1e3", "1.0", "1_000",
		"9999999999", "10000000000", "01000000000", "18446744073709551617", "18446744073709551616", "９",
		strings.Repeat("9", 100), strings.Repeat("0", 100), strings.Repeat("1", 30000),
	} {
		refusesDecimal(t, text)
	}
	for b := 0; b < 256; b++ {
		if b < '0' || b > '9' {
			refusesDecimal(t, string([]byte{byte(b)}))
			refusesDecimal(t, string([]byte{'1', byte(b)}))
			refusesDecimal(t, string([]byte{byte(b), '1'}))
		}
	}
}

func TestPartsOfParts(t *testing.T) {
	blanks := strings.Repeat(" ", impl.MaxWords)
	longest := strings.Repeat("x", impl.MaxWords)
	for _, c := range []struct {
		line string
		want []string
	}{
		{"", nil}, {" ", nil}, {"   ", nil}, {blanks, nil},
		{"a", []string{"a"}}, {" a", []string{"a"}}, {"a ", []string{"a"}}, {"  a  ", []string{"a"}},
		{" tick  1 2 ", []string{"tick", "1", "2"}},
		{"!\"#~ }", []string{"!\"#~", "}"}}, {"a a a", []string{"a", "a", "a"}},
		{longest, []string{longest}},
		{longest[1:] + " ", []string{longest[1:]}},
		{"1 2 3 4 5 6 7 8 9 10", []string{"1", "2", "3", "4", "5", "6", "7", "8", "9", "10"}},
		{"  1 2 3  4 5 6 7 8 9 0  ", []string{"1", "2", "3", "4", "5", "6", "7", "8", "9", "0"}},
		{blanks[19:] + "1 2 3 4 5 6 7 8 9 0", []string{"1", "2", "3", "4", "5", "6", "7", "8", "9", "0"}},
	} {
		if got, ok := impl.PartsOf(c.line); !slices.Equal(got, c.want) || !ok {
			t.Errorf("PartsOf(%q) = %q, %v; want %q", c.line, got, ok, c.want)
		}
	}
}

func refusesLine(t *testing.T, line string) {
	t.Helper()
	if got, ok := impl.PartsOf(line); len(got) != 0 || ok {
		t.Errorf("PartsOf(%q) = %q, %v; want nothing", line, got, ok)
	}
}

func TestPartsOfRefuses(t *testing.T) {
	for _, line := range []string{
		strings.Repeat("x", impl.MaxWords+1), strings.Repeat(" ", impl.MaxWords+1),
		"a" + strings.Repeat(" ", impl.MaxWords), strings.Repeat(" ", impl.MaxWords) + "a",
		"1 2 3 4 5 6 7 8 9 10 11", " 1 2 3 4 5 6 7 8 9 0 1 ", strings.Repeat("a ", 300),
		"a\tb", "a\nb", "a\n", "\r", "caf\xc3\xa9", "a\xc2\xa0b", "\xe2\x80\x83",
	} {
		refusesLine(t, line)
	}
	for b := 0; b < 256; b++ {
		if b >= 32 && b <= 126 {
			continue
		}
		refusesLine(t, string([]byte{byte(b)}))
		refusesLine(t, "a b "+string([]byte{byte(b)})+" c")
		refusesLine(t, "  "+string([]byte{byte(b)}))
	}
}

// Every byte that a line may have, but the blank, stands in a part as it is.
func TestPartsOfTakesEveryPlainByte(t *testing.T) {
	for b := 33; b <= 126; b++ {
		part := string([]byte{byte(b)})
		if got, ok := impl.PartsOf("a " + part + " " + part + part); !ok || !slices.Equal(got, []string{"a", part, part + part}) {
			t.Errorf("PartsOf with the byte %d: %q, %v", b, got, ok)
		}
	}
}
