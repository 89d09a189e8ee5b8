package write

import (
	"fmt"
	"reflect"

	"fascia/api"
	"fascia/host"
	"fascia/parse"
)

// The chapter's words, followed one by one.

// row is a text that is a piece if it is there, and is not empty.
type row struct {
	there bool
	part  uint8
	text  string
}

func referenceRows(u api.URL) []row {
	none := u.Host.Kind == api.HostNone
	somebody := !none && (u.User != "" || u.Pass != "")
	port := !none && u.Port != -1
	dot := none && !u.Opaque && len(u.Path) >= 2 && u.Path[0] == ""
	rows := []row{
		{true, api.PartScheme, u.Scheme},
		{true, api.PartDelim, ":"},
		{!none, api.PartDelim, "//"},
		{somebody, api.PartUser, u.User},
		{somebody && u.Pass != "", api.PartDelim, ":"},
		{somebody, api.PartPass, u.Pass},
		{somebody, api.PartDelim, "@"},
		{!none, api.PartHost, host.Show(u.Host)},
		{port, api.PartDelim, ":"},
		{port, api.PartPort, fmt.Sprint(u.Port)},
		{dot, api.PartDelim, "/"},
		{dot, api.PartDelim, "."},
	}
	for i, s := range u.Path {
		rows = append(rows, row{!u.Opaque, api.PartDelim, "/"}, row{!u.Opaque || i == 0, api.PartPath, s})
	}
	return append(rows,
		row{u.HasQuery, api.PartDelim, "?"},
		row{u.HasQuery, api.PartQuery, u.Query},
		row{u.HasHash, api.PartDelim, "#"},
		row{u.HasHash, api.PartHash, u.Hash},
	)
}

func referencePieces(u api.URL) []api.Piece {
	var l []api.Piece
	for _, r := range referenceRows(u) {
		if r.there && r.text != "" {
			l = append(l, api.Piece{Part: r.part, Text: r.text})
		}
	}
	return l
}

func referenceText(u api.URL) string {
	s := ""
	for _, p := range referencePieces(u) {
		s += p.Text
	}
	return s
}

func referenceRight(u api.URL) bool {
	again, e := parse.URL([]byte(referenceText(u)), api.URL{}, false)
	return e == api.OK && equal(again, u)
}

// equal reports whether a and b are the same; no segments are the same as no segments.
func equal(a, b api.URL) bool {
	if len(a.Path) == 0 && len(b.Path) == 0 {
		a.Path, b.Path = nil, nil
	}
	return reflect.DeepEqual(a, b)
}
