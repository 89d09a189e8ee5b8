package path

const (
	colon     = ':'
	bar       = '|'
	driveSize = 2
)

func letter(r rune) bool {
	return r >= 'A' && r <= 'Z' || r >= 'a' && r <= 'z'
}

// endsDrive reports whether r may stand behind a drive that code points begin with.
func endsDrive(r rune) bool {
	return r == '/' || r == '\\' || r == '?' || r == '#'
}

// normalized reports whether a segment is a normalized drive.
func normalized(s string) bool {
	return len(s) == driveSize && s[1] == colon && letter(rune(s[0]))
}

// normal returns a drive as a normalized one.
func normal(drive []rune) string {
	return string([]rune{drive[0], colon})
}
