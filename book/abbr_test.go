package book_test

import (
	"regexp"
	"slices"
	"strings"
	"testing"

	"timeball/api"
	"timeball/book"
)

var (
	abbrForm   = regexp.MustCompile(`\A[a-zA-Z0-9+-]{1,8}\z`)
	twoForm    = regexp.MustCompile(`\A([a-zA-Z0-9+-]{1,8})/([a-zA-Z0-9+-]{1,8})\z`)
	letterForm = regexp.MustCompile(`\A([a-zA-Z0-9+-]*)%([a-zA-Z0-9+-]*)\z`)
)

// wantAbbr is P10, told in another way than the package tells it: by forms.
func wantAbbr(format string, save int, letter string) (string, api.Errno) {
	two, one := twoForm.FindStringSubmatch(format), letterForm.FindStringSubmatch(format)
	var results [2]string // without a saving and with one
	switch {
	case !abbrForm.MatchString(letter):
		return "", api.ErrSyntax
	case abbrForm.MatchString(format):
		results = [2]string{format, format}
	case two != nil && len(format) <= 12:
		results = [2]string{two[1], two[2]}
	case one != nil && len(one[1])+len(one[2]) <= 8:
		both := one[1] + letter + one[2]
		if letter == "-" {
			both = one[1] + one[2]
		}
		results = [2]string{both, both}
	default:
		return "", api.ErrSyntax
	}
	result := results[min(max(save, 0), 1)]
	switch {
	case save < 0 || save > maxSave:
		return "", api.ErrArg
	case len(result) > 8:
		return "", api.ErrLarge
	case result == "":
		return "", api.ErrForm
	}
	return result, api.OK
}

// checkAbbr compares Abbr with wantAbbr.
func checkAbbr(t *testing.T, format string, save int, letter string) {
	t.Helper()
	want, wantError := wantAbbr(format, save, letter)
	if s, e := book.Abbr(format, save, letter); s != want || e != wantError {
		t.Errorf("Abbr(%.40q, %d, %.40q) = %q, %d, want %q, %d", format, save, letter, s, e, want, wantError)
	}
}

// checkFormat checks a format with savings and letters, and in an era.
func checkFormat(t *testing.T, format string) {
	t.Helper()
	for _, save := range []int{0, 1, 3600, maxSave, -1, maxSave + 1} {
		for _, letter := range []string{"-", "S", "+", "--", "SS", "ABCDEFG", "ABCDEFGH", "ABCDEFGHI", "", "%", "/", "A/B", " "} {
			checkAbbr(t, format, save, letter)
		}
	}
	for _, save := range []int{0, 3600} {
		_, want := wantAbbr(format, save, "-")
		b := api.Book{Zones: []api.Zone{{Name: "A", Eras: []api.Era{{Save: save, Format: format}}}}}
		if e := book.Check(b); e != want {
			t.Errorf("Check(%s) = %d, want %d", show(b), e, want)
		}
	}
}

// P10: ordinary formats, the edge cases, and their results in so many words.
func TestKnownAbbrs(t *testing.T) {
	for _, c := range []struct {
		format string
		save   int
		letter string
		want   string
		e      api.Errno
	}{
		{"CE%T", 3600, "S", "CEST", api.OK}, {"CE%T", 0, "-", "CET", api.OK}, {"CE%T", 0, "S", "CEST", api.OK}, {"CE%T", 3600, "-", "CET", api.OK},
		{"GMT/BST", 0, "-", "GMT", api.OK}, {"GMT/BST", 1, "-", "BST", api.OK}, {"GMT/BST", 0, "S", "GMT", api.OK}, {"GMT/BST", 10800, "S", "BST", api.OK},
		{"LMT", 0, "-", "LMT", api.OK}, {"LMT", 3600, "S", "LMT", api.OK}, {"+0530", 0, "-", "+0530", api.OK}, {"-03/-02", 3600, "-", "-02", api.OK},
		{"-", 0, "-", "-", api.OK}, {"-", 0, "S", "-", api.OK}, {"-/+", 0, "S", "-", api.OK}, {"-/+", 1, "S", "+", api.OK},
		{"%", 0, "S", "S", api.OK}, {"%", 0, "--", "--", api.OK}, {"%", 0, "ABCDEFGH", "ABCDEFGH", api.OK}, {"%T", 0, "-", "T", api.OK}, {"T%", 0, "-", "T", api.OK},
		{"-%", 0, "-", "-", api.OK}, {"%-", 0, "-", "-", api.OK}, {"-%-", 0, "S", "-S-", api.OK}, {"A%", 0, "+", "A+", api.OK},
		{"ABCDEFGH", 0, "-", "ABCDEFGH", api.OK}, {"ABCDEFGH%", 0, "-", "ABCDEFGH", api.OK}, {"%ABCDEFGH", 0, "-", "ABCDEFGH", api.OK},
		{"ABCDEFG%", 0, "S", "ABCDEFGS", api.OK}, {"A%BCDEFG", 0, "S", "ASBCDEFG", api.OK}, {"ABCDEF%", 0, "SS", "ABCDEFSS", api.OK},
		{"ABCDEFGH/IJK", 0, "-", "ABCDEFGH", api.OK}, {"ABC/DEFGHIJK", 1, "-", "DEFGHIJK", api.OK}, {"ABCDEF/GHIJK", 1, "-", "GHIJK", api.OK},
		{"ABCDEFGH%", 0, "S", "", api.ErrLarge}, {"ABCDEFG%", 0, "SS", "", api.ErrLarge}, {"A%", 0, "ABCDEFGH", "", api.ErrLarge},
		{"ABCDEF%", 0, "SSS", "", api.ErrLarge}, {"ABCD%EFGH", 0, "ABCDEFGH", "", api.ErrLarge},
		{"%", 0, "-", "", api.ErrForm}, {"%", 3600, "-", "", api.ErrForm},
		{"", 0, "-", "", api.ErrSyntax}, {"/", 0, "-", "", api.ErrSyntax}, {"A/", 0, "-", "", api.ErrSyntax}, {"/A", 0, "-", "", api.ErrSyntax},
		{"A/", 1, "-", "", api.ErrSyntax}, {"/A", 1, "-", "", api.ErrSyntax}, {"A/B/C", 0, "-", "", api.ErrSyntax}, {"A//B", 0, "-", "", api.ErrSyntax},
		{"%%", 0, "S", "", api.ErrSyntax}, {"A%%", 0, "S", "", api.ErrSyntax}, {"A%B%", 0, "-", "", api.ErrSyntax}, {"%/A", 0, "S", "", api.ErrSyntax},
		{"A/%", 0, "S", "", api.ErrSyntax}, {"A%/B", 0, "S", "", api.ErrSyntax}, {"A/B%", 1, "S", "", api.ErrSyntax}, {"A%/B%", 1, "S", "", api.ErrSyntax},
		{"%s", 0, "S", "Ss", api.OK}, {"C_T", 0, "-", "", api.ErrSyntax}, {"C T", 0, "-", "", api.ErrSyntax}, {"CÉT", 0, "-", "", api.ErrSyntax},
		{"ABCDEFGHI", 0, "-", "", api.ErrSyntax}, {"ABCDEFGHIJKL", 0, "-", "", api.ErrSyntax}, {"ABCDEFGHI%", 0, "-", "", api.ErrSyntax},
		{"ABCDEFGHI/JK", 1, "-", "", api.ErrSyntax}, {"AB/CDEFGHIJK", 0, "-", "", api.ErrSyntax}, {"ABCDEF/GHIJKL", 0, "-", "", api.ErrSyntax},
		{"CE%T", 0, "", "", api.ErrSyntax}, {"CE%T", 0, "A B", "", api.ErrSyntax}, {"CET", 0, "", "", api.ErrSyntax}, {"GMT/BST", 0, "%", "", api.ErrSyntax},
		{"CE%T", 0, "ABCDEFGHI", "", api.ErrSyntax}, {"CET", 0, "ABCDEFGHI", "", api.ErrSyntax}, {"CE%T", 0, "_", "", api.ErrSyntax},
		{"CE%T", -1, "S", "", api.ErrArg}, {"CE%T", 10801, "S", "", api.ErrArg}, {"CET", -1, "S", "", api.ErrArg}, {"A/B", 10801, "S", "", api.ErrArg},
		{"CE%T", 10800, "S", "CEST", api.OK}, {"", -1, "S", "", api.ErrSyntax}, {"A", -1, "", "", api.ErrSyntax}, {"%%", 10801, "", "", api.ErrSyntax},
		{"ABCDEFGH%", -1, "S", "", api.ErrArg}, {"%", 10801, "-", "", api.ErrArg},
	} {
		if s, e := book.Abbr(c.format, c.save, c.letter); s != c.want || e != c.e {
			t.Errorf("Abbr(%q, %d, %q) = %q, %d, want %q, %d", c.format, c.save, c.letter, s, e, c.want, c.e)
		}
		checkAbbr(t, c.format, c.save, c.letter)
	}
}

// P10: all short formats of a few bytes.
func TestShortFormats(t *testing.T) {
	for _, format := range combinations("AZ0+-%/ ", 4) {
		checkFormat(t, format)
	}
	for _, format := range combinations("A-%/", 6) {
		checkFormat(t, format)
	}
}

// combinations returns all strings of at most n of the given bytes.
func combinations(bytes string, n int) []string {
	all, longest := []string{""}, []string{""}
	for range n {
		var longer []string
		for _, s := range longest {
			for i := range len(bytes) {
				longer = append(longer, s+bytes[i:i+1])
			}
		}
		longest = longer
		all = append(all, longest...)
	}
	return all
}

// P10: formats of every form, of every length around the limits, with the
// marks at every place.
func TestLengthsOfFormats(t *testing.T) {
	for n := range 30 {
		letters := strings.Repeat("ABCDEFGHIJ", 3)[:n]
		checkFormat(t, letters)
		for i := range n + 1 {
			for _, mark := range []string{"%", "/", "%%", "//", "%/", "/%"} {
				checkFormat(t, letters[:i]+mark+letters[i:])
			}
			for k := i; k <= n && n < 15; k++ {
				checkFormat(t, letters[:i]+"%"+letters[i:k]+"%"+letters[k:])
				checkFormat(t, letters[:i]+"/"+letters[i:k]+"/"+letters[k:])
				checkFormat(t, letters[:i]+"/"+letters[i:k]+"%"+letters[k:])
			}
		}
	}
	for _, s := range []string{"A", "%", "/", "A/", "A%", "-", " ", "\x00"} {
		checkFormat(t, strings.Repeat(s, 1<<15))
		checkAbbr(t, "CE%T", 0, strings.Repeat(s, 1<<15))
	}
}

// P10: every byte at every place of a format and of a letter.
func TestBytesOfFormats(t *testing.T) {
	for c := range 256 {
		s := string([]byte{byte(c)})
		for _, format := range []string{"#", "#A", "A#", "A#A", "#%", "%#", "A#%", "A%#", "#/A", "A/#", "A#/A", "A/#A", "A/A#", "#ABCDEFG", "ABCDEFG#", "ABCDEFGHIJK#"} {
			checkFormat(t, strings.Replace(format, "#", s, 1))
		}
		for _, letter := range []string{"#", "#A", "A#", "A#A", "-#", "ABCDEFG#", "ABCDEFGH#"} {
			for _, format := range []string{"%", "A%", "A", "A/B"} {
				checkAbbr(t, format, 0, strings.Replace(letter, "#", s, 1))
			}
		}
	}
}

// P10: the saving decides only between two abbreviations, from the first
// second on, and no other one is accepted.
func TestSavings(t *testing.T) {
	for save := -3; save <= maxSave+3; save++ {
		for _, format := range []string{"A", "A/B", "A%", "%", "", "ABCDEFGH%"} {
			checkAbbr(t, format, save, "S")
			checkAbbr(t, format, save, "-")
			checkAbbr(t, format, save, "")
		}
	}
	for _, save := range extremes() {
		if s, e := book.Abbr("A/B", save, "S"); s != "" || e != api.ErrArg {
			t.Errorf("Abbr of the saving %d is %q, %d", save, s, e)
		}
	}
}

// P11: a format must suit every rule of the name that its era mentions, no
// other ones, and the time before all rules.
func TestFormatsWithRules(t *testing.T) {
	letters := []string{"-", "S", "SS", "ABCDEFGH"}
	for _, format := range []string{"A", "A/B", "%", "A%", "ABCDEF%", "ABCDEFG%", "%ABCDEFGH", "ABCDEFGHI", "A%/B", ""} {
		for i := range 1 << (2 * len(letters)) {
			b := api.Book{Zones: []api.Zone{{Name: "Z", Eras: []api.Era{{Rules: "N", Format: format}}}}}
			want := api.ErrNone
			var found []api.Errno
			for k := range 2 * len(letters) {
				if i>>k&1 == 0 {
					continue
				}
				r := exampleBook().Rules[0]
				r.Letter, r.Name = letters[k%len(letters)], []string{"N", "n"}[k/len(letters)]
				b.Rules = append(b.Rules, r)
				if r.Name == "N" {
					_, e := wantAbbr(format, r.Save, r.Letter)
					found = append(found, e)
				}
			}
			if len(found) > 0 {
				_, e := wantAbbr(format, 0, "-")
				want = firstError(append(found, e))
			}
			if e := book.Check(b); e != want {
				t.Errorf("Check(%v) = %d, want %d", b, e, want)
			}
			slices.Reverse(b.Rules)
			if e := book.Check(b); e != want {
				t.Errorf("Check(%v) = %d, want %d", b, e, want)
			}
		}
	}
}

func firstError(list []api.Errno) api.Errno {
	for _, e := range list {
		if e != api.OK {
			return e
		}
	}
	return api.OK
}
