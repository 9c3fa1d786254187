package names_test

import (
	"fmt"
	"math/rand"
	"regexp"
	"strings"
	"testing"

	"gavel/api"
	"gavel/names"
)

func wantUnspell(t *testing.T, spelling, want string) {
	t.Helper()
	if got, err := names.Unspell(spelling); got != want || err != api.OK {
		t.Errorf("Unspell(%.70q): %.70q, %v, not %.70q", spelling, got, err, want)
	}
}

func wantNoSpelling(t *testing.T, text string) {
	t.Helper()
	if got, err := names.Unspell(text); got != "" || err != api.ErrSpelling {
		t.Errorf("Unspell(%.70q): %.70q, %v, not none, %v", text, got, err, api.ErrSpelling)
	}
}

// spelt is the spelling by its words: what is 32 to 126, but 34 and 92, as it is.
func spelt(text string) string {
	s := `"`
	for _, b := range []byte(text) {
		if b < 32 || b > 126 || b == 34 || b == 92 {
			s += fmt.Sprintf("\\x%02x", b)
		} else {
			s += string(rune(b))
		}
	}
	return s + `"`
}

// wantThereAndBack: P6.5, P6.7: the spelling, and the text out of it.
func wantThereAndBack(t *testing.T, text string) {
	t.Helper()
	spelling := names.Spell(text)
	if want := spelt(text); spelling != want {
		t.Errorf("Spell(%.70q): %.70q, not %.70q", text, spelling, want)
	}
	wantUnspell(t, spelling, text)
}

// P6.5: each byte, alone and between others.
func TestEachByte(t *testing.T) {
	var all []byte
	for b := range 256 {
		one := string([]byte{byte(b)})
		all = append(all, byte(b))
		wantThereAndBack(t, one)
		wantThereAndBack(t, "a"+one+"z")
		wantThereAndBack(t, one+one)
		wantThereAndBack(t, string(all))
	}
	for b, want := range map[byte]string{31: `"\x1f"`, 32: `" "`, 33: `"!"`, 34: `"\x22"`, 35: `"#"`, 91: `"["`, 92: `"\x5c"`, 93: `"]"`, 126: `"~"`, 127: `"\x7f"`, 128: `"\x80"`, 0: `"\x00"`, 255: `"\xff"`} {
		if got := names.Spell(string([]byte{b})); got != want {
			t.Errorf("Spell of the byte %d: %s, not %s", b, got, want)
		}
	}
}

// P6.5: a text may be of any length, also of none, and need be no name.
func TestSpellLengths(t *testing.T) {
	wantThereAndBack(t, "")
	if got := names.Spell(""); got != `""` {
		t.Errorf("Spell of no bytes: %s", got)
	}
	for n := range 200 {
		wantThereAndBack(t, strings.Repeat("n", n))
		wantThereAndBack(t, strings.Repeat("\n", n))
		wantThereAndBack(t, strings.Repeat("é\\\"", n))
	}
	for _, piece := range []string{"a", "\x00", `"`, `\`, `\x61`, "é"} {
		long := strings.Repeat(piece, 1<<18)
		wantUnspell(t, names.Spell(long), long)
		wantNoSpelling(t, names.Spell(long)+" ")
		wantNoSpelling(t, names.Spell(long)[1:])
	}
}

// P6.5: each byte's digits, in all their forms: just one form is read.
func TestDigits(t *testing.T) {
	for b := range 256 {
		own := spelt(string([]byte{byte(b)}))
		for _, form := range []string{`"\x%02x"`, `"\x%02X"`, `"\X%02x"`, `"x%02x"`, `"\%02x"`, `"\x%x"`, `"\u00%02x"`, `"\%03o"`, `"\\x%02x"`, `"\x%02x`, `\x%02x"`, `\x%02x`} {
			text := fmt.Sprintf(form, b)
			if form == `"x%02x"` {
				wantUnspell(t, text, text[1:len(text)-1])
			} else if text == own {
				wantUnspell(t, text, string([]byte{byte(b)}))
			} else {
				wantNoSpelling(t, text)
			}
		}
	}
	for b := range 256 {
		for _, text := range []string{`"\x` + string([]byte{byte(b)}) + `0"`, `"\x0` + string([]byte{byte(b)}) + `"`} {
			if c := byte(b); c >= '0' && c <= '9' || c >= 'a' && c <= 'f' {
				if got, err := names.Unspell(text); err == api.OK && names.Spell(got) != text {
					t.Errorf("Unspell(%q): %q", text, got)
				}
				continue
			}
			wantNoSpelling(t, text)
		}
	}
}

// P6.5: bytes that may not stand as they are.
func TestNotAsTheyAre(t *testing.T) {
	for b := range 256 {
		text := "\"" + string([]byte{byte(b)}) + "\""
		if b >= 32 && b <= 126 && b != 34 && b != 92 {
			wantUnspell(t, text, text[1:2])
		} else {
			wantNoSpelling(t, text)
		}
	}
}

func TestNoSpellings(t *testing.T) {
	for _, text := range []string{
		"", `"`, "a", "ab", `a"`, `"a`, `'a'`, "`a`", ` "a"`, `"a" `, "\"a\"\n", `"a"b"`, `"a""b"`, `""a`, `a""`, `"""`, `""""`,
		`"\"`, `"\x"`, `"\x2"`, `"\x22`, `"\x2`, `"\x`, `"\`, `\x22`, `"\""`, `"\\"`, `"\n"`, `"\x2 2"`, `"\x 22"`, `"\xé"`, "\"\\x\x0022\"",
		`"\x61"`, `"a\x61"`, `"\x20"`, `"\x7e"`, `"\xC8"`, `"\x0A"`, `"\x5C"`, `"\xaF"`, `"\xGG"`, `"\xgg"`, `"\x-1"`, `"\x+1"`,
		"\"é\"", "\"\n\"", "\"\x7f\"", "\"\xff\"", "\xff", "\x00", "\"\x00\"",
	} {
		wantNoSpelling(t, text)
	}
}

// spelling is the same told by a rule of another kind.
var spelling = regexp.MustCompile(`^"(?:[ !#-\[\]-~]|\\x(?:[01][0-9a-f]|22|5c|7f|[89a-f][0-9a-f]))*"$`)

func wantByRule(t *testing.T, text string) {
	t.Helper()
	if !spelling.MatchString(text) {
		wantNoSpelling(t, text)
		return
	}
	got, err := names.Unspell(text)
	if err != api.OK || names.Spell(got) != text {
		t.Errorf("Unspell(%q): %q, %v", text, got, err)
	}
}

// P6.5, P6.7: all short texts of the bytes that matter, and all between two quotes.
func TestAllShortTexts(t *testing.T) {
	const letters = "\"\\x25cC"
	var grow func(text []byte, left int)
	grow = func(text []byte, left int) {
		wantByRule(t, string(text))
		wantByRule(t, `"`+string(text)+`"`)
		if left == 0 {
			return
		}
		for i := range len(letters) {
			grow(append(text, letters[i]), left-1)
		}
	}
	grow(nil, 6)
}

// P6.5, P6.7: spellings in which one byte is another one, is gone, or is there twice.
func TestSpellingsTurned(t *testing.T) {
	rnd := rand.New(rand.NewSource(6))
	for range 5000 {
		text := make([]byte, rnd.Intn(12))
		for i := range text {
			text[i] = byte(rnd.Intn(256))
			if rnd.Intn(2) == 0 {
				text[i] = `"\xa0`[rnd.Intn(5)]
			}
		}
		wantThereAndBack(t, string(text))
		s := names.Spell(string(text))
		at := rnd.Intn(len(s))
		wantByRule(t, s[:at]+string([]byte{byte(rnd.Intn(256))})+s[at+1:])
		wantByRule(t, s[:at]+s[at+1:])
		wantByRule(t, s[:at]+s[at:at+1]+s[at:])
		wantByRule(t, s[:at])
		wantByRule(t, s[at:])
	}
}
