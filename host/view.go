package host

import (
	"fascia/api"
	"fascia/four"
	"fascia/six"
)

// view is a host that is shown.
type view api.Host

// text returns what v is shown as: each kind in its own way, those that there
// are not as nothing.
func (v view) text() string {
	ways := [...]func(view) string{
		api.HostNone:   view.nothing,
		api.HostEmpty:  view.nothing,
		api.HostDomain: view.name,
		api.HostFour:   view.four,
		api.HostSix:    view.six,
		api.HostOpaque: view.name,
	}
	if int(v.Kind) >= len(ways) {
		return v.nothing()
	}
	return ways[v.Kind](v)
}

func (v view) nothing() string {
	return ""
}

func (v view) name() string {
	return v.Name
}

func (v view) four() string {
	return four.Show(v.Four)
}

func (v view) six() string {
	return string(opening) + six.Show(v.Six) + string(closing)
}
