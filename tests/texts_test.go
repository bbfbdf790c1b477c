package tests

// textsOf tells every text of at most most letters of the alphabet, the empty
// one too. A letter may be several bytes, or a part of a rune.
func textsOf(alphabet []string, most int) []string {
	all := []string{""}
	from := 0
	for range most {
		to := len(all)
		for _, head := range all[from:to] {
			for _, letter := range alphabet {
				all = append(all, head+letter)
			}
		}
		from = to
	}
	return all
}

func singleBytes() []string {
	var all []string
	for b := range 256 {
		all = append(all, string([]byte{byte(b)}))
	}
	return all
}

// oddTexts tells texts that are easily taken for others: of no runes, of runes
// cut short, of bytes written longer than they need to be.
func oddTexts() []string {
	odd := []string{
		"\x00", "\xff\xfe", "\xef\xbf\xbd", "\xc3", "\xc3A", "\xc3 ", " \xc3", "\xe2\x82", "\xe2\x82,\xac",
		"\xc0\xa0", "\xc0\xac", "\xc1\x81", "\xc0\xb1", "\xed\xa0\x80", "\xf4\x90\x80\x80",
		"\u00c4\u00d6", "\u0410", "\u212a", "\u0130", "\uff21", "\uff11", "\u0661", "\u00a0", "\u2003", "\uff0c",
		"\u00a0a\u00a0", "\ta\t", "\n", "\r\n", "a\x7f", "a\x1f",
	}
	odd = append(odd, textsOf(singleBytes(), 2)...)
	return append(odd, textsOf([]string{"a", "Z", "0", "-", " ", ",", "\xc3", "\xa4", "\xff", "\x00"}, 4)...)
}
