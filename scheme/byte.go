package scheme

func letter(c byte) bool {
	return c >= 'a' && c <= 'z'
}

// behindLetter reports whether c, which is no letter, may be in a scheme, but not first.
func behindLetter(c byte) bool {
	return c >= '0' && c <= '9' || c == '+' || c == '-' || c == '.'
}

// lower returns l as a text with letters from A to Z in lower case. No others
// are converted: the sign of Kelvin, too, has a small letter from a to z. What
// is no scalar becomes U+FFFD, which no scheme has either.
func lower(l []rune) string {
	text := make([]rune, len(l))
	for i, r := range l {
		if r >= 'A' && r <= 'Z' {
			r += 'a' - 'A'
		}
		text[i] = r
	}
	return string(text)
}
