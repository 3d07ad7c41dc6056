package options

import (
	"sojourner/api"
	"sojourner/octets"
)

// Flags of a prefix.
const (
	onLinkFlag = 128
	autoFlag   = 64
)

// How many bytes stand unused in an option's Data: behind a prefix's times, ahead of a packet, and ahead of a number.
const (
	prefixGap = 4
	packetGap = 6
	numberGap = 2
)

// Link: an address of the link. (P10.2)
func Link(kind uint8, m api.Mac) api.Option {
	return api.Option{Kind: kind, Data: join(m[:])}
}

// Info: a prefix. (P10.2)
func Info(p api.PrefixInfo) api.Option {
	b := octets.Put([]byte{p.Prefix.Bits, flags(p)}, uint64(p.Valid), 4)
	b = octets.Put(b, uint64(p.Preferred), 4)
	return api.Option{Kind: prefix, Data: join(b, make([]byte, prefixGap), p.Prefix.Addr[:])}
}

// flags is the byte of a prefix's flags.
func flags(p api.PrefixInfo) byte {
	var f byte
	if p.OnLink {
		f |= onLinkFlag
	}
	if p.Auto {
		f |= autoFlag
	}
	return f
}

// Redirected: a packet. (P10.2)
func Redirected(b []byte) api.Option {
	return api.Option{Kind: redirected, Data: join(make([]byte, packetGap), b)}
}

// Mtu: the greatest packet. (P10.2)
func Mtu(n uint32) api.Option {
	return api.Option{Kind: mtu, Data: number(n)}
}

// Nonce: a number of chance. (P10.2)
func Nonce(n [6]byte) api.Option {
	return api.Option{Kind: nonce, Data: join(n[:])}
}

// Servers: of names. (P10.2)
func Servers(life uint32, l []api.Addr) api.Option {
	b := number(life)
	for _, a := range l {
		b = append(b, a[:]...)
	}
	return api.Option{Kind: servers, Data: join(b)}
}

// Domains: where names are looked for. (P10.2)
func Domains(life uint32, l []string) api.Option {
	b := number(life)
	for _, name := range l {
		if isName(name) {
			b = append(b, nameBytes(name)...)
		}
	}
	return api.Option{Kind: domains, Data: join(b)}
}

// number is what Data is, or begins with, where a number is told.
func number(n uint32) []byte {
	return octets.Put(make([]byte, numberGap), uint64(n), 4)
}
