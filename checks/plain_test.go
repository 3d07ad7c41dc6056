package checks_test

import "sojourner/api"

// plainValid goes through the chapter's words one by one, and counts the bits of addresses itself.
func plainValid(p api.Packet, m api.Message) bool {
	isMany := func(a api.Addr) bool { return a[0] == 0xff }
	isLocal := func(a api.Addr) bool { return a[0] == 0xfe && a[1] >= 0x80 && a[1] <= 0xbf }
	nobody := p.Src == api.Addr{}
	has1 := false
	for _, o := range m.Options {
		if o.Kind == 1 {
			has1 = true
		}
	}
	group := api.Addr{0xff, 0x02, 0, 0, 0, 0, 0, 0, 0, 0, 0, 1, 0xff, m.Target[13], m.Target[14], m.Target[15]}
	if m.Kind == 130 || m.Kind == 143 {
		if p.Hops != 1 || m.Code != 0 || !p.Alert {
			return false
		}
		return isLocal(p.Src) || m.Kind == 143 && nobody
	}
	if m.Kind < 133 || m.Kind > 137 {
		return true
	}
	if p.Hops != 255 || m.Code != 0 {
		return false
	}
	switch m.Kind {
	case 133:
		if nobody && has1 {
			return false
		}
	case 134:
		if !isLocal(p.Src) {
			return false
		}
	case 135:
		if isMany(m.Target) {
			return false
		}
		if nobody && p.Dst != group {
			return false
		}
		if nobody && has1 {
			return false
		}
	case 136:
		if isMany(m.Target) {
			return false
		}
		if isMany(p.Dst) && m.Flags/64%2 == 1 {
			return false
		}
	case 137:
		if !isLocal(p.Src) || isMany(m.Dest) {
			return false
		}
		if !isLocal(m.Target) && m.Target != m.Dest {
			return false
		}
	}
	return true
}
