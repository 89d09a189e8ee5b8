package write

import (
	"math"

	"fascia/api"
)

var (
	none   = api.Host{}
	empty  = api.Host{Kind: api.HostEmpty}
	dotted = api.Host{Kind: api.HostFour, Four: 0x7f000001}
	colons = api.Host{Kind: api.HostSix, Six: [8]uint16{7: 1}}
)

func named(s string) api.Host {
	return api.Host{Kind: api.HostDomain, Name: s}
}

func opaque(s string) api.Host {
	return api.Host{Kind: api.HostOpaque, Name: s}
}

// written: URLs that are right, and their pieces (of each the number of its part, and its text).
var written = []struct {
	u    api.URL
	want string
}{
	// the chapter's
	{api.URL{Scheme: "http", User: "u", Host: named("h"), Port: 8080, Path: []string{"a", ""}, HasQuery: true, Query: "q"}, "1http 2: 2// 3u 2@ 5h 2: 68080 2/ 7a 2/ 2? 8q"},
	{api.URL{Scheme: "a", Port: -1, Path: []string{"", "p"}}, "1a 2: 2/ 2. 2/ 2/ 7p"},
	{api.URL{Scheme: "mailto", Port: -1, Opaque: true, Path: []string{"a"}}, "1mailto 2: 7a"},
	{api.URL{Scheme: "file", Host: empty, Port: -1, Path: []string{"C:"}}, "1file 2: 2// 2/ 7C:"},

	// who asks
	{api.URL{Scheme: "http", User: "u", Pass: "p", Host: named("h"), Port: -1, Path: []string{""}}, "1http 2: 2// 3u 2: 4p 2@ 5h 2/"},
	{api.URL{Scheme: "http", Pass: "p", Host: named("h"), Port: -1, Path: []string{""}}, "1http 2: 2// 2: 4p 2@ 5h 2/"},
	{api.URL{Scheme: "http", User: "u", Host: named("h"), Port: -1, Path: []string{""}}, "1http 2: 2// 3u 2@ 5h 2/"},
	{api.URL{Scheme: "http", Host: named("h"), Port: -1, Path: []string{""}}, "1http 2: 2// 5h 2/"},
	{api.URL{Scheme: "a", User: "u%40", Pass: "p%3A", Host: opaque("h"), Port: 1}, "1a 2: 2// 3u%40 2: 4p%3A 2@ 5h 2: 61"},

	// hosts, which are one piece each
	{api.URL{Scheme: "http", Host: named("xn--4ca.b"), Port: -1, Path: []string{""}}, "1http 2: 2// 5xn--4ca.b 2/"},
	{api.URL{Scheme: "ws", Host: dotted, Port: -1, Path: []string{""}}, "1ws 2: 2// 5127.0.0.1 2/"},
	{api.URL{Scheme: "wss", Host: api.Host{Kind: api.HostFour}, Port: -1, Path: []string{""}}, "1wss 2: 2// 50.0.0.0 2/"},
	{api.URL{Scheme: "ftp", Host: colons, Port: -1, Path: []string{""}}, "1ftp 2: 2// 5[::1] 2/"},
	{api.URL{Scheme: "a", Host: colons, Port: 0}, "1a 2: 2// 5[::1] 2: 60"},
	{api.URL{Scheme: "a", Host: opaque("H%20"), Port: -1}, "1a 2: 2// 5H%20"},
	{api.URL{Scheme: "a", Host: empty, Port: -1}, "1a 2: 2//"},
	{api.URL{Scheme: "a", Host: empty, Port: -1, Path: []string{""}}, "1a 2: 2// 2/"},
	{api.URL{Scheme: "file", Host: named("h"), Port: -1, Path: []string{"C:", "x"}}, "1file 2: 2// 5h 2/ 7C: 2/ 7x"},

	// ports
	{api.URL{Scheme: "http", Host: named("h"), Port: 0, Path: []string{""}}, "1http 2: 2// 5h 2: 60 2/"},
	{api.URL{Scheme: "http", Host: named("h"), Port: 65535, Path: []string{""}}, "1http 2: 2// 5h 2: 665535 2/"},
	{api.URL{Scheme: "a", Host: opaque("h"), Port: 80}, "1a 2: 2// 5h 2: 680"},

	// paths
	{api.URL{Scheme: "http", Host: named("h"), Port: -1, Path: []string{"", ""}}, "1http 2: 2// 5h 2/ 2/"},
	{api.URL{Scheme: "http", Host: named("h"), Port: -1, Path: []string{"", "", "a"}}, "1http 2: 2// 5h 2/ 2/ 2/ 7a"},
	{api.URL{Scheme: "http", Host: named("h"), Port: -1, Path: []string{"a%2Fb", ":", "@"}}, "1http 2: 2// 5h 2/ 7a%2Fb 2/ 7: 2/ 7@"},
	{api.URL{Scheme: "a", Host: empty, Port: -1, Path: []string{"", "p"}}, "1a 2: 2// 2/ 2/ 7p"},
	{api.URL{Scheme: "a", Port: -1, Path: []string{""}}, "1a 2: 2/"},
	{api.URL{Scheme: "a", Port: -1, Path: []string{"", ""}}, "1a 2: 2/ 2. 2/ 2/"},
	{api.URL{Scheme: "a", Port: -1, Path: []string{"p", ""}}, "1a 2: 2/ 7p 2/"},
	{api.URL{Scheme: "a", Port: -1, Path: []string{"p", "", "q"}}, "1a 2: 2/ 7p 2/ 2/ 7q"},
	{api.URL{Scheme: "a", Port: -1, Path: []string{"p\\"}}, "1a 2: 2/ 7p\\"},
	// opaque ones
	{api.URL{Scheme: "a", Port: -1, Opaque: true, Path: []string{""}}, "1a 2:"},
	{api.URL{Scheme: "a", Port: -1, Opaque: true, Path: []string{"b/../c:@"}}, "1a 2: 7b/../c:@"},
	{api.URL{Scheme: "a", Port: -1, Opaque: true, Path: []string{".//b"}}, "1a 2: 7.//b"},

	// query and fragment
	{api.URL{Scheme: "a", Port: -1, Opaque: true, Path: []string{""}, HasQuery: true, HasHash: true}, "1a 2: 2? 2#"},
	{api.URL{Scheme: "a", Port: -1, Opaque: true, Path: []string{""}, HasQuery: true, Query: "?/@"}, "1a 2: 2? 8?/@"},
	{api.URL{Scheme: "a", Port: -1, Opaque: true, Path: []string{""}, HasHash: true, Hash: "#?/"}, "1a 2: 2# 9#?/"},
	{api.URL{Scheme: "http", Host: named("h"), Port: -1, Path: []string{""}, HasQuery: true}, "1http 2: 2// 5h 2/ 2?"},
	{api.URL{Scheme: "http", Host: named("h"), Port: -1, Path: []string{""}, HasHash: true}, "1http 2: 2// 5h 2/ 2#"},
	{api.URL{Scheme: "http", Host: named("h"), Port: -1, Path: []string{""}, HasQuery: true, Query: "q", HasHash: true, Hash: "f"}, "1http 2: 2// 5h 2/ 2? 8q 2# 9f"},
	{api.URL{Scheme: "a", Host: opaque("h"), Port: -1, HasQuery: true, Query: "q", HasHash: true, Hash: "f"}, "1a 2: 2// 5h 2? 8q 2# 9f"},
}

// wrong: URLs that are not right, and their pieces.
var wrong = []struct {
	u    api.URL
	want string
}{
	{api.URL{}, "2:"},
	{api.URL{Port: -1}, "2:"},
	// what is not in the text
	{api.URL{Scheme: "a", Port: 0, Path: []string{""}}, "1a 2: 2/"},
	{api.URL{Scheme: "a", User: "u", Port: -1, Path: []string{""}}, "1a 2: 2/"},
	{api.URL{Scheme: "a", Pass: "p", Port: -1, Path: []string{""}}, "1a 2: 2/"},
	{api.URL{Scheme: "a", Port: -1, Path: []string{""}, Query: "q"}, "1a 2: 2/"},
	{api.URL{Scheme: "a", Port: -1, Path: []string{""}, Hash: "f"}, "1a 2: 2/"},
	{api.URL{Scheme: "a", Port: -1, Opaque: true, Path: []string{"b", "c"}}, "1a 2: 7b"},
	{api.URL{Scheme: "a", Port: -1, Opaque: true, Path: []string{"", "c"}}, "1a 2:"},
	{api.URL{Scheme: "a", Host: api.Host{Name: "h"}, Port: -1, Path: []string{""}}, "1a 2: 2/"},
	{api.URL{Scheme: "a", Host: api.Host{Kind: api.HostOpaque, Name: "h", Four: 1}, Port: -1}, "1a 2: 2// 5h"},
	{api.URL{Scheme: "http", Host: api.Host{Kind: api.HostFour, Name: "h"}, Port: -1, Path: []string{""}}, "1http 2: 2// 50.0.0.0 2/"},
	// what a parsed one has not
	{api.URL{Scheme: "http", Port: -1}, "1http 2:"},
	{api.URL{Scheme: "http", Port: -1, Path: []string{"h"}}, "1http 2: 2/ 7h"},
	{api.URL{Scheme: "http", Port: -1, Path: []string{"", "h"}}, "1http 2: 2/ 2. 2/ 2/ 7h"},
	{api.URL{Scheme: "http", Host: named("h"), Port: -1}, "1http 2: 2// 5h"},
	{api.URL{Scheme: "http", Host: named("h"), Port: 80, Path: []string{""}}, "1http 2: 2// 5h 2: 680 2/"},
	{api.URL{Scheme: "http", Host: named("H"), Port: -1, Path: []string{""}}, "1http 2: 2// 5H 2/"},
	{api.URL{Scheme: "http", Host: named("1"), Port: -1, Path: []string{""}}, "1http 2: 2// 51 2/"},
	{api.URL{Scheme: "http", Host: opaque("h"), Port: -1, Path: []string{""}}, "1http 2: 2// 5h 2/"},
	{api.URL{Scheme: "http", Host: empty, Port: -1, Path: []string{""}}, "1http 2: 2// 2/"},
	{api.URL{Scheme: "a", Host: named("h"), Port: -1}, "1a 2: 2// 5h"},
	{api.URL{Scheme: "a", Host: dotted, Port: -1}, "1a 2: 2// 5127.0.0.1"},
	{api.URL{Scheme: "a", User: "u", Host: empty, Port: -1}, "1a 2: 2// 3u 2@"},
	{api.URL{Scheme: "a", Host: empty, Port: 8}, "1a 2: 2// 2: 68"},
	{api.URL{Scheme: "file", Host: named("localhost"), Port: -1, Path: []string{""}}, "1file 2: 2// 5localhost 2/"},
	{api.URL{Scheme: "file", Host: empty, Port: -1, Path: []string{"C|"}}, "1file 2: 2// 2/ 7C|"},
	{api.URL{Scheme: "file", Port: -1, Path: []string{"x"}}, "1file 2: 2/ 7x"},
	{api.URL{Scheme: "A", Port: -1, Path: []string{"x"}}, "1A 2: 2/ 7x"},
	{api.URL{Scheme: "1", Port: -1, Path: []string{"x"}}, "11 2: 2/ 7x"},
	{api.URL{Scheme: "a", Port: -1}, "1a 2:"},
	{api.URL{Scheme: "a", Port: -1, Opaque: true}, "1a 2:"},
	{api.URL{Scheme: "a", Port: -1, Opaque: true, Path: []string{"/b"}}, "1a 2: 7/b"},
	{api.URL{Scheme: "a", Port: -1, Opaque: true, Path: []string{"b?"}}, "1a 2: 7b?"},
	{api.URL{Scheme: "a", Host: opaque("h"), Port: -1, Opaque: true, Path: []string{"b"}}, "1a 2: 2// 5h 7b"},
	{api.URL{Scheme: "http", Host: named("h"), Port: -1, Opaque: true, Path: []string{""}}, "1http 2: 2// 5h"},
	{api.URL{Scheme: "a", Host: empty, Port: -20, Opaque: true, Path: []string{"x", "y"}}, "1a 2: 2// 2: 6-20 7x"},
	{api.URL{Scheme: "a", Port: -1, Path: []string{"."}}, "1a 2: 2/ 7."},
	{api.URL{Scheme: "a", Port: -1, Path: []string{"b", "%2E."}}, "1a 2: 2/ 7b 2/ 7%2E."},
	{api.URL{Scheme: "a", Port: -1, Path: []string{"b/c"}}, "1a 2: 2/ 7b/c"},
	{api.URL{Scheme: "a", Port: -1, Path: []string{"/", "c"}}, "1a 2: 2/ 7/ 2/ 7c"},
	{api.URL{Scheme: "a", Port: -1, Path: []string{"", "c"}, Opaque: true}, "1a 2:"},
	// what is encoded, or ends what it stands in
	{api.URL{Scheme: "a", Port: -1, Path: []string{"\xff"}}, "1a 2: 2/ 7\xff"},
	{api.URL{Scheme: "a", Port: -1, Path: []string{"\u00fc?"}}, "1a 2: 2/ 7\u00fc?"},
	{api.URL{Scheme: "a", Port: -1, Path: []string{"\x00"}}, "1a 2: 2/ 7\x00"},
	{api.URL{Scheme: "a", Port: -1, Path: []string{""}, HasQuery: true, Query: "#"}, "1a 2: 2/ 2? 8#"},
	{api.URL{Scheme: "a", Port: -1, Path: []string{""}, HasQuery: true, Query: "\t"}, "1a 2: 2/ 2? 8\t"},
	{api.URL{Scheme: "a", Port: -1, Path: []string{""}, HasHash: true, Hash: "`"}, "1a 2: 2/ 2# 9`"},
	{api.URL{Scheme: "http", Host: named("h"), Port: -1, Path: []string{""}, HasQuery: true, Query: "'"}, "1http 2: 2// 5h 2/ 2? 8'"},
	{api.URL{Scheme: "http", User: "@", Pass: ":", Host: named("h"), Port: -1, Path: []string{""}}, "1http 2: 2// 3@ 2: 4: 2@ 5h 2/"},
	// ports that are none
	{api.URL{Scheme: "a", Host: opaque("h"), Port: -2}, "1a 2: 2// 5h 2: 6-2"},
	{api.URL{Scheme: "a", Host: opaque("h"), Port: 65536}, "1a 2: 2// 5h 2: 665536"},
	{api.URL{Scheme: "a", Host: opaque("h"), Port: math.MaxInt64}, "1a 2: 2// 5h 2: 69223372036854775807"},
	{api.URL{Scheme: "a", Host: opaque("h"), Port: math.MinInt64}, "1a 2: 2// 5h 2: 6-9223372036854775808"},
	// kinds that there are not
	{api.URL{Scheme: "a", Host: api.Host{Kind: 6, Name: "h"}, Port: -1}, "1a 2: 2//"},
	{api.URL{Scheme: "a", User: "u", Host: api.Host{Kind: 255, Name: "h", Four: 1}, Port: 7, Path: []string{"", "x"}}, "1a 2: 2// 3u 2@ 2: 67 2/ 2/ 7x"},
	// a scheme that would be another one's text
	{api.URL{Scheme: "a:b", Port: -1, Path: []string{""}}, "1a:b 2: 2/"},
	{api.URL{Scheme: " a", Port: -1, Path: []string{""}}, "1 a 2: 2/"},
}
