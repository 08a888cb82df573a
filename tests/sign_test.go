package tests

import (
	"slices"
	"strings"
	"testing"

	"loop.example/g00290/impl"
)

// theKeyWords are the 23 of the document.
var theKeyWords = []string{
	"monitor", "var", "queue", "entry", "process", "uses", "begin", "end", "if", "then", "else", "while", "do",
	"call", "to", "print", "read", "delay", "continue", "skip", "and", "or", "not",
}

// theMarks are the marks of the document, `:=` among them.
var theMarks = []string{":=", ";", ",", ".", "(", ")", "+", "-", "*", "/", "%", "<", "="}

// wrongBytes stand in no text but in its remarks: control bytes, capitals, other marks, bytes above 127, bytes that are no UTF-8, and runes that are letters, figures, blanks or marks elsewhere.
var wrongBytes = []string{
	"\x00", "\t", "\v", "\f", "\r", "\x1f", "\x7f", "!", "\"", "$", "&", "'", ">", "?", "@", "[", "\\", "]", "^", "_", "`", "{", "|", "}", "~", "A", "M", "Z", ":",
	"\x80", "\xa0", "\xbf", "\xc3", "\xe2\x82", "\xff", "\xc0\xa0", "\xed\xa0\x80",
	"ä", "é", "\u017f", "\u0661", "\uff10", "\uff41", "\u00a0", "\u2028", "\u0085", "≤", "😀", "\ufffd",
}

// between are all that may part two signs and is none itself.
var between = []string{
	" ", "\n", "  ", "\n\n", " \n ", "#\n", "# a remark\n", " # 12 := ; \n", "##\n#\n", "#\t\xff ä 😀 A ? :\n", "#\xe2\n", "\n#" + strings.Repeat("x", 40) + "\n ",
}

func nameSign(text string, at int) impl.Sign {
	return impl.Sign{Kind: impl.SgName, Text: text, At: at}
}

func numSign(text string, num, at int) impl.Sign {
	return impl.Sign{Kind: impl.SgNum, Text: text, Num: num, At: at}
}

func markSign(text string, at int) impl.Sign {
	return impl.Sign{Kind: impl.SgMark, Text: text, At: at}
}

// hasSigns asks that a text have these signs, and none else.
func hasSigns(t *testing.T, text string, want ...impl.Sign) {
	t.Helper()
	got, fault := impl.SignsOf(text)
	if !slices.Equal(got, want) || fault != 0 {
		t.Errorf("SignsOf(%.200q) = %v, %d; want %v, 0", text, got, fault, want)
	}
}

// signsGoWrong asks that a text have no signs, and that the place be told at which it goes wrong.
func signsGoWrong(t *testing.T, text string, at int) {
	t.Helper()
	if got, fault := impl.SignsOf(text); len(got) != 0 || fault != at+1 {
		t.Errorf("SignsOf(%.200q) = %v, %d; want nothing, %d", text, got, fault, at+1)
	}
}

// withoutPlaces are signs whose At is 0.
func withoutPlaces(signs []impl.Sign) []impl.Sign {
	out := slices.Clone(signs)
	for i := range out {
		out[i].At = 0
	}
	return out
}

// mixedSigns are signs of every kind; any two of them may stand with a blank between.
func mixedSigns() []impl.Sign {
	signs := []impl.Sign{}
	for _, mark := range theMarks {
		signs = append(signs, markSign(mark, 0))
	}
	for _, word := range theKeyWords {
		signs = append(signs, nameSign(word, 0))
	}
	signs = append(signs, nameSign("a", 0), nameSign("z", 0), nameSign("abcdefgh", 0), nameSign("x", 0))
	return append(signs, numSign("0", 0, 0), numSign("7", 7, 0), numSign("007", 7, 0), numSign("999999", 999999, 0), numSign("000000", 0, 0))
}

func TestSignLimitsAreTheDocuments(t *testing.T) {
	if impl.MaxSource != 1500 || impl.MaxSigns != 500 || impl.SgName != 1 || impl.SgNum != 2 || impl.SgMark != 3 {
		t.Error("a constant is not the document's")
	}
}

func TestNameOk(t *testing.T) {
	for _, s := range []string{
		"a", "m", "z", "az", "abcdefgh", "zzzzzzzz", "aaaaaaaa", "no", "nota", "ends", "beginn", "en", "i", "t", "too", "vars", "monitors", "continua", "skipp",
	} {
		if !impl.NameOk(s) {
			t.Errorf("NameOk(%q) is false", s)
		}
	}
	for _, s := range []string{
		"", "abcdefghi", "monitorss", strings.Repeat("a", 100), "A", "Abc", "abC", "aZc", "a1", "1a", "1", "123", "a b", " a", "a ", " ", "a\n", "\n", "a_b", "a-b", "a.b", ":=", ";", "#", "a#",
		"`", "{", "a`", "{a", "@", "[", "a\x00", "\x00", "a\xff", "\xffa", "\xe1", "\xfa", "ä", "aä", "a\u017f", "é", "\uff41", "abcdefgä", "\ufffd", "END", "End", "tO",
	} {
		if impl.NameOk(s) {
			t.Errorf("NameOk(%q) is true", s)
		}
	}
}

func TestEachByteInAName(t *testing.T) {
	for b := range 256 {
		letter := 'a' <= b && b <= 'z'
		for _, s := range []string{string([]byte{byte(b)}), string([]byte{'q', byte(b)}), string([]byte{byte(b), 'q'}), string([]byte{'q', byte(b), 'q'})} {
			if impl.NameOk(s) != letter {
				t.Errorf("NameOk(%q) is %v", s, !letter)
			}
		}
	}
}

func TestKeyWord(t *testing.T) {
	for _, word := range theKeyWords {
		if !impl.KeyWord(word) {
			t.Errorf("KeyWord(%q) is false", word)
		}
		if impl.NameOk(word) {
			t.Errorf("NameOk(%q) is true", word)
		}
		for _, s := range []string{word[1:], word[:len(word)-1], word + word, word + " ", " " + word, strings.ToUpper(word), strings.ToUpper(word[:1]) + word[1:], word + "\x00", word + "q", "q" + word} {
			if impl.KeyWord(s) && !slices.Contains(theKeyWords, s) {
				t.Errorf("KeyWord(%q) is true", s)
			}
		}
	}
	for _, s := range []string{"", " ", "a", "name", "do while", ":=", "12", "\xff", "mod", "true", "for", "func", "repeat"} {
		if impl.KeyWord(s) {
			t.Errorf("KeyWord(%q) is true", s)
		}
	}
}

func TestSignsOfOrdinary(t *testing.T) {
	hasSigns(t, "v:=12 # x\n<begin", nameSign("v", 0), markSign(":=", 1), numSign("12", 12, 3), markSign("<", 10), nameSign("begin", 11))
	hasSigns(t, "call buf.put(n+1) to x", nameSign("call", 0), nameSign("buf", 5), markSign(".", 8), nameSign("put", 9), markSign("(", 12),
		nameSign("n", 13), markSign("+", 14), numSign("1", 1, 15), markSign(")", 16), nameSign("to", 18), nameSign("x", 21))
	hasSigns(t, "\n  # ahead\n process p ;\n", nameSign("process", 12), nameSign("p", 20), markSign(";", 22))
}

func TestEachMark(t *testing.T) {
	for _, mark := range theMarks {
		size := len(mark)
		hasSigns(t, mark, markSign(mark, 0))
		hasSigns(t, " "+mark+"\n", markSign(mark, 1))
		hasSigns(t, "a"+mark+"b", nameSign("a", 0), markSign(mark, 1), nameSign("b", 1+size))
		hasSigns(t, "1"+mark+"2", numSign("1", 1, 0), markSign(mark, 1), numSign("2", 2, 1+size))
		hasSigns(t, mark+mark, markSign(mark, 0), markSign(mark, size))
		hasSigns(t, mark+"#"+mark, markSign(mark, 0))
	}
}

func TestMarksSideBySide(t *testing.T) {
	for _, left := range theMarks {
		for _, right := range theMarks {
			hasSigns(t, left+right, markSign(left, 0), markSign(right, len(left)))
		}
	}
	hasSigns(t, ":==", markSign(":=", 0), markSign("=", 2))
	hasSigns(t, "=:=", markSign("=", 0), markSign(":=", 1))
	hasSigns(t, "<=", markSign("<", 0), markSign("=", 1))
}

func TestKeyWordsAreNameSigns(t *testing.T) {
	for _, word := range theKeyWords {
		hasSigns(t, word, nameSign(word, 0))
		hasSigns(t, "1"+word+"2", numSign("1", 1, 0), nameSign(word, 1), numSign("2", 2, 1+len(word)))
	}
	hasSigns(t, "endif", nameSign("endif", 0))
	hasSigns(t, "end if", nameSign("end", 0), nameSign("if", 4))
}

func TestNamesAndNumbersSideBySide(t *testing.T) {
	hasSigns(t, "ab12cd034", nameSign("ab", 0), numSign("12", 12, 2), nameSign("cd", 4), numSign("034", 34, 6))
	hasSigns(t, "123456abcdefgh123456abcdefgh", numSign("123456", 123456, 0), nameSign("abcdefgh", 6), numSign("123456", 123456, 14), nameSign("abcdefgh", 20))
	hasSigns(t, "-5", markSign("-", 0), numSign("5", 5, 1))
	hasSigns(t, "1.5", numSign("1", 1, 0), markSign(".", 1), numSign("5", 5, 2))
}

func TestTextsWithoutSigns(t *testing.T) {
	for _, text := range []string{"", " ", "\n", "   ", "\n\n\n", " \n \n", "#", "##", "#\n", "# ", " #", "\n#", "# a", "# a\n", "#a\n#b", "#a\n#b\n", " # a := 1 ; \n  # \xff\t?", "#\xe2\x82", "#\xff", "# ends in a letter"} {
		hasSigns(t, text)
	}
	for _, text := range between {
		hasSigns(t, text)
	}
}

func TestRemarksAtTheEnd(t *testing.T) {
	for _, remark := range []string{"#", "##", "# ", "#a", "# 1 := \t?", "#\xff", "#\xe2\x82", "#\n", "# x\n", "# x\n ", "# x\n#", "#:", "#12345678", "#abcdefghi"} {
		hasSigns(t, "end"+remark, nameSign("end", 0))
		hasSigns(t, "end "+remark, nameSign("end", 0))
		hasSigns(t, "12"+remark, numSign("12", 12, 0))
		hasSigns(t, ":="+remark, markSign(":=", 0))
		hasSigns(t, "end.\n"+remark, nameSign("end", 0), markSign(".", 3))
	}
}

func TestSignsBehindARemark(t *testing.T) {
	hasSigns(t, "a#b\nc", nameSign("a", 0), nameSign("c", 4))
	hasSigns(t, "#\na", nameSign("a", 2))
	hasSigns(t, "#\xe2\na", nameSign("a", 3))
	hasSigns(t, "#ä\n:=", markSign(":=", 4))
	hasSigns(t, "1#\n2", numSign("1", 1, 0), numSign("2", 2, 3))
	hasSigns(t, "a#\r b\n#c\n\nd", nameSign("a", 0), nameSign("d", 10))
}

func TestWhateverIsBetween(t *testing.T) {
	signs := mixedSigns()
	for _, gap := range between {
		text, want := gap, []impl.Sign{}
		for _, sign := range signs {
			sign.At = len(text)
			want = append(want, sign)
			text += sign.Text + gap
			if len(text) > impl.MaxSource-100 {
				hasSigns(t, text, want...)
				text, want = gap, []impl.Sign{}
			}
		}
		hasSigns(t, text, want...)
	}
}

func TestSignsComeBackFromTheirText(t *testing.T) {
	signs := mixedSigns()
	text := impl.SignText(signs)
	got, fault := impl.SignsOf(text)
	if fault != 0 || !slices.Equal(withoutPlaces(got), signs) {
		t.Errorf("SignsOf(%q) = %v, %d", text, got, fault)
	}
	for _, source := range []string{
		"", "#", "a", "a1b2:=<=;,.()+-*/%", "monitor m;var n;queue q;entry e(x)begin if n=0then begin delay q end;n:=n-1 end;end;#", "print(1)\n# two\nprint - not 2\n",
	} {
		first, fault := impl.SignsOf(source)
		again, faultAgain := impl.SignsOf(impl.SignText(first))
		if fault != 0 || faultAgain != 0 || !slices.Equal(withoutPlaces(first), withoutPlaces(again)) {
			t.Errorf("of %q: %v, %d, and again %v, %d", source, first, fault, again, faultAgain)
		}
	}
}

func TestSizeOfNames(t *testing.T) {
	hasSigns(t, "abcdefgh", nameSign("abcdefgh", 0))
	hasSigns(t, " continue;", nameSign("continue", 1), markSign(";", 9))
	signsGoWrong(t, "abcdefghi", 0)
	signsGoWrong(t, "monitorss ", 0)
	signsGoWrong(t, "a b abcdefghi c", 4)
	signsGoWrong(t, "12abcdefghi", 2)
	signsGoWrong(t, strings.Repeat("z", 1500), 0)
	hasSigns(t, "abcdefgh ijklmnop", nameSign("abcdefgh", 0), nameSign("ijklmnop", 9))
	hasSigns(t, "abcd#\nefghi", nameSign("abcd", 0), nameSign("efghi", 6))
}

func TestSizeOfNumbers(t *testing.T) {
	for _, c := range []struct {
		text string
		num  int
	}{
		{"0", 0}, {"1", 1}, {"9", 9}, {"10", 10}, {"00", 0}, {"01", 1}, {"000000", 0}, {"000001", 1}, {"099999", 99999}, {"100000", 100000}, {"123456", 123456}, {"654321", 654321}, {"999999", 999999}, {"78", 78}, {"00780", 780},
	} {
		hasSigns(t, c.text, numSign(c.text, c.num, 0))
		hasSigns(t, "a "+c.text+")", nameSign("a", 0), numSign(c.text, c.num, 2), markSign(")", 2+len(c.text)))
	}
	// MaxVal itself has more than 6 figures.
	for _, text := range []string{"0000000", "0000001", "1000000", "1000001", "9999999", "0999999", "00000000000000000000", "99999999999999999999", "18446744073709551616"} {
		signsGoWrong(t, text, 0)
		signsGoWrong(t, "x:="+text+";", 3)
	}
}

func TestColonsAlone(t *testing.T) {
	for _, c := range []struct {
		text string
		at   int
	}{
		{":", 0}, {": ", 0}, {":\n", 0}, {": =", 0}, {":\n=", 0}, {"::=", 0}, {":;", 0}, {":a", 0}, {":1", 0}, {":#\n=", 0}, {"a:", 1}, {"a :", 2}, {"v: =1", 1}, {"v:=:", 3}, {":=:", 2}, {"a:=1;b:2", 6}, {":\x00", 0}, {":<", 0},
	} {
		signsGoWrong(t, c.text, c.at)
	}
}

func TestWrongBytes(t *testing.T) {
	for _, wrong := range wrongBytes {
		signsGoWrong(t, wrong, 0)
		signsGoWrong(t, wrong+" a := 1", 0)
		signsGoWrong(t, " "+wrong, 1)
		signsGoWrong(t, "a"+wrong+"b", 1)
		signsGoWrong(t, "12"+wrong+"3", 2)
		signsGoWrong(t, "a ; "+wrong+" b", 4)
		signsGoWrong(t, "a := 1 "+wrong, 7)
		signsGoWrong(t, "# ä\n"+wrong, 5)
		signsGoWrong(t, wrong+wrong, 0)
		hasSigns(t, "a#"+wrong+"\nb", nameSign("a", 0), nameSign("b", 3+len(wrong)))
		hasSigns(t, "a #"+wrong, nameSign("a", 0))
	}
}

// mayStand tells whether a byte alone is a text that goes well.
func mayStand(b byte) bool {
	return 'a' <= b && b <= 'z' || '0' <= b && b <= '9' || strings.IndexByte(" \n#;,.()+-*/%<=", b) >= 0
}

func TestEachByteAlone(t *testing.T) {
	for b := range 256 {
		text := string([]byte{byte(b)})
		if mayStand(byte(b)) {
			if _, fault := impl.SignsOf(text); fault != 0 {
				t.Errorf("SignsOf(%q) goes wrong: %d", text, fault)
			}
			continue
		}
		signsGoWrong(t, text, 0)
		signsGoWrong(t, "; "+text+" ;", 2)
	}
}

func TestTheFirstFaultCounts(t *testing.T) {
	signsGoWrong(t, "a ? abcdefghi", 2)
	signsGoWrong(t, "abcdefghi ?", 0)
	signsGoWrong(t, "abcdefghi?", 0)
	signsGoWrong(t, "1234567 abcdefghi ?", 0)
	signsGoWrong(t, "1 abcdefghi 1234567", 2)
	signsGoWrong(t, "1 ? ? ?", 2)
	full := strings.Repeat(";", 500)
	signsGoWrong(t, full+" a ?", 501)
	signsGoWrong(t, full+"?a", 500)
	signsGoWrong(t, full+"\n#x\n? a", 504)
	signsGoWrong(t, full+"abcdefghi", 500)
	signsGoWrong(t, "?"+full+";", 0)
	signsGoWrong(t, full[1:]+"1234567;;", 499)
}

func TestNumberOfSigns(t *testing.T) {
	want := []impl.Sign{}
	for at := range 500 {
		want = append(want, markSign(";", at))
	}
	full := strings.Repeat(";", 500)
	hasSigns(t, full, want...)
	hasSigns(t, full+" \n # one more ;\n\n", want...)
	hasSigns(t, full+"#", want...)
	for _, more := range []string{";", "a", "1", ":=", ";;;;", "abcdefghi", "."} {
		signsGoWrong(t, full+more, 500)
		signsGoWrong(t, full+" "+more, 501)
		signsGoWrong(t, full+"#;\n"+more, 503)
	}
	names, places := strings.Repeat("a ", 500), []impl.Sign{}
	for at := range 500 {
		places = append(places, nameSign("a", 2*at))
	}
	hasSigns(t, names, places...)
	signsGoWrong(t, names+"a", 1000)
}

func TestLengthOfTexts(t *testing.T) {
	hasSigns(t, strings.Repeat(" ", 1500))
	hasSigns(t, "#"+strings.Repeat("\xff", 1499))
	hasSigns(t, strings.Repeat("\n", 1499)+"a", nameSign("a", 1499))
	hasSigns(t, strings.Repeat("#\n", 749)+":=", markSign(":=", 1498))
	signsGoWrong(t, strings.Repeat(" ", 1499)+"?", 1499)
	for _, text := range []string{
		strings.Repeat(" ", 1501), "#" + strings.Repeat("x", 1500), strings.Repeat(" ", 1500) + "a", "a" + strings.Repeat(" ", 1500), strings.Repeat(";", 1501),
		strings.Repeat(" ", 10) + "?" + strings.Repeat(" ", 1490), strings.Repeat("ä", 751), strings.Repeat("\n", 100000), strings.Repeat("a", 1501),
	} {
		signsGoWrong(t, text, 0)
	}
}

func TestSignText(t *testing.T) {
	for _, c := range []struct {
		list []impl.Sign
		want string
	}{
		{nil, ""},
		{[]impl.Sign{}, ""},
		{[]impl.Sign{{}}, ""},
		{[]impl.Sign{{}, {}}, " "},
		{[]impl.Sign{{}, {}, {}}, "  "},
		{[]impl.Sign{nameSign("a", 5)}, "a"},
		{[]impl.Sign{nameSign("a", 5), markSign(":=", 0), numSign("007", 7, 2)}, "a := 007"},
		{[]impl.Sign{{Kind: 9, Text: "A b", Num: 4, At: -1}, {}, {Kind: -1, Text: "#\n\xff"}}, "A b  #\n\xff"},
		{[]impl.Sign{{Kind: impl.SgNum, Num: 7}, {Kind: impl.SgNum, Num: 8, Text: "12"}}, " 12"},
	} {
		if got := impl.SignText(c.list); got != c.want {
			t.Errorf("SignText(%v) = %q; want %q", c.list, got, c.want)
		}
	}
	many := make([]impl.Sign, 3000)
	for i := range many {
		many[i].Text = "x"
	}
	if got := impl.SignText(many); got != strings.Repeat("x ", 2999)+"x" {
		t.Errorf("SignText of 3000 signs has %d bytes", len(got))
	}
}

func TestSignsAreLeftAsTheyWere(t *testing.T) {
	list := append(make([]impl.Sign, 0, 4), nameSign("a", 1), numSign("2", 2, 3))
	impl.SignText(list)
	if !slices.Equal(list[:4], []impl.Sign{nameSign("a", 1), numSign("2", 2, 3), {}, {}}) {
		t.Errorf("SignText left %v", list[:4])
	}
	first, _ := impl.SignsOf("a b")
	first[0].Text = "z"
	hasSigns(t, "a b", nameSign("a", 0), nameSign("b", 2))
}
