package word_test

import (
	"testing"

	"cairn/api"
	"cairn/word"
)

// The chapter's first example.
func TestExampleSumsAndQuotients(t *testing.T) {
	want(t, "Add", word.Add(top, api.Word{1}), api.Word{})
	sum, over := word.Carry(top, api.Word{1})
	want(t, "Carry", sum, api.Word{})
	if !over {
		t.Error("Carry: false")
	}
	want(t, "Sub", word.Sub(api.Word{}, api.Word{1}), top)
	want(t, "SDiv", word.SDiv(neg(7), api.Word{2}), neg(3))
	want(t, "SMod", word.SMod(neg(7), api.Word{2}), neg(1))
	want(t, "SDiv", word.SDiv(least, neg(1)), least)
}

// The chapter's second example.
func TestExampleModuloPowersSigns(t *testing.T) {
	want(t, "MulMod", word.MulMod(top, top, api.Word{12}), api.Word{9})
	want(t, "Exp", word.Exp(api.Word{3}, api.Word{5}), api.Word{243})
	want(t, "SignExtend", word.SignExtend(api.Word{0}, api.Word{255}), top)
	want(t, "SignExtend", word.SignExtend(api.Word{0}, api.Word{127}), api.Word{127})
}

// The chapter's third example.
func TestExampleBytesShiftsTexts(t *testing.T) {
	want(t, "Byte", word.Byte(api.Word{31}, api.Word{258}), api.Word{2})
	want(t, "Byte", word.Byte(api.Word{30}, api.Word{258}), api.Word{1})
	want(t, "Shl", word.Shl(api.Word{255}, api.Word{1}), least)
	want(t, "Sar", word.Sar(api.Word{255}, least), top)
	if s := word.Hex(api.Word{255}); s != "0xff" {
		t.Error(s)
	}
	x, e := word.Parse("0xFf")
	wantWord(t, "Parse", "0xFf", x, e, api.Word{255}, api.OK)
	x, e = word.Parse("007")
	wantWord(t, "Parse", "007", x, e, api.Word{}, api.ErrWord)
}
