package lex

import (
	"math"
	"slices"
	"strings"
	"testing"

	"lodestone/api"
)

// said is words as a text: what they are, and where they begin.
func said(t *testing.T, s string) []api.Word {
	t.Helper()
	words, at, e := Words(s)
	if e != api.OK || at != 0 {
		t.Errorf("%q: %d at %d", s, e, at)
	}
	return words
}

func TestWords(t *testing.T) {
	want := []api.Word{
		{Kind: api.WordName, S: "a"}, {Kind: api.WordMark, S: ".", At: 1}, {Kind: api.WordName, S: "b", At: 2},
		{Kind: api.WordMark, S: "<=", At: 4}, {Kind: api.WordInt, N: 5, At: 7}, {Kind: api.WordEnd, At: 8},
	}
	if got := said(t, "a.b <= 5"); !slices.Equal(got, want) {
		t.Errorf("words are %v", got)
	}
	for s, want := range map[string][]api.Word{
		"":                              {{At: 0}},
		" \t\n ":                        {{At: 4}},
		"_9aZ":                          {{Kind: api.WordName, S: "_9aZ"}, {At: 4}},
		"007":                           {{Kind: api.WordInt, N: 7}, {At: 3}},
		"9223372036854775807":           {{Kind: api.WordInt, N: math.MaxInt64}, {At: 19}},
		"00000000000000000000000000001": {{Kind: api.WordInt, N: 1}, {At: 29}},
		`"a\"\\b" x`:                    {{Kind: api.WordText, S: `a"\b`}, {Kind: api.WordName, S: "x", At: 9}, {At: 10}},
		"\"\x20\x7f\xff\"":              {{Kind: api.WordText, S: "\x20\x7f\xff"}, {At: 5}},
		`""`:                            {{Kind: api.WordText}, {At: 2}},
		"1->":                           {{Kind: api.WordInt, N: 1}, {Kind: api.WordMark, S: "->", At: 1}, {At: 3}},
		"1\"a\"":                        {{Kind: api.WordInt, N: 1}, {Kind: api.WordText, S: "a", At: 1}, {At: 4}},
	} {
		if got := said(t, s); !slices.Equal(got, want) {
			t.Errorf("words of %q are %v", s, got)
		}
	}
}

func TestMarks(t *testing.T) {
	for s, want := range map[string]string{
		"()[]{}:,.-=": "( ) [ ] { } : , . - =", "-><-<=>=!=<>": "-> <- <= >= != < >", "--><--": "- -> <- -", "<<=": "< <=", ">>==": "> >= =", "<->": "<- >",
	} {
		var got []string
		for _, w := range said(t, s) {
			if w.Kind == api.WordMark {
				got = append(got, w.S)
			}
		}
		if strings.Join(got, " ") != want {
			t.Errorf("marks of %q are %q", s, got)
		}
	}
}

func TestErrors(t *testing.T) {
	for s, want := range map[string]int{
		"a ! b": 2, "a\r": 1, "é": 0, "a;": 1, "1a": 0, " 12_": 1, "9223372036854775808": 0, "a 99999999999999999999999": 2, `x "abc`: 2, `x "a\`: 2, `"a\n"`: 0, "  \"a\nb\"": 2,
		"\"\x1f\"": 0, `"\"`: 0, "\x00": 0, "'": 0, "a \\": 2,
	} {
		if words, at, e := Words(s); words != nil || at != want || e != api.ErrWord {
			t.Errorf("%q: %v, %d at %d, not at %d", s, words, e, at, want)
		}
	}
}

func TestMostQuestion(t *testing.T) {
	if words := said(t, strings.Repeat(" ", api.MostQuestion)); len(words) != 1 {
		t.Errorf("%d words", len(words))
	}
	if words, at, e := Words(strings.Repeat("!", api.MostQuestion+1)); words != nil || at != 0 || e != api.ErrMuch {
		t.Errorf("%d at %d", e, at)
	}
}

func TestText(t *testing.T) {
	for s, want := range map[string]string{"": `""`, "a": `"a"`, `"`: `"\""`, `\`: `"\\"`, `a"\b`: `"a\"\\b"`, "ü": `"ü"`} {
		if got := Text(s); got != want {
			t.Errorf("Text of %q is %s", s, got)
		}
		if words := said(t, Text(s)); len(words) != 2 || words[0] != (api.Word{Kind: api.WordText, S: s}) {
			t.Errorf("words of %s are %v", Text(s), words)
		}
	}
}
