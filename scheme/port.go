package scheme

const noPort = -1

// ports returns the default port of each special scheme.
func ports() map[string]int {
	return map[string]int{
		"ftp":   21,
		"file":  noPort,
		"http":  80,
		"https": 443,
		"ws":    80,
		"wss":   443,
	}
}
