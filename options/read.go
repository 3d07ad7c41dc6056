package options

import (
	"slices"

	"sojourner/addrs"
	"sojourner/api"
	"sojourner/octets"
)

// addrBits is how many bits an address has.
const addrBits = 128

// lasting is a list, and how many seconds it counts.
type lasting[T any] struct {
	life uint32
	list []T
}

// told is what an option's Data tells, if it is of the right kind: read has to take all of it, and no more than there is.
func told[T any](o api.Option, right bool, read func(c *octets.Cutter) (T, bool)) (T, bool) {
	var none T
	if !right {
		return none, false
	}
	c := octets.Of(o.Data)
	v, ok := read(c)
	if !ok || c.Bad() || c.Left() > 0 {
		return none, false
	}
	return v, true
}

// Mac: of such an option. (P10.3)
func Mac(o api.Option) (api.Mac, bool) {
	return told(o, o.Kind == sourceLink || o.Kind == targetLink, readMac)
}

func readMac(c *octets.Cutter) (m api.Mac, ok bool) {
	// Copied, as a cutter with too few bytes cuts none at all.
	copy(m[:], c.Bytes(len(m)))
	return m, true
}

// Prefix: of such an option. (P10.3)
func Prefix(o api.Option) (api.PrefixInfo, bool) {
	return told(o, o.Kind == prefix, readPrefix)
}

func readPrefix(c *octets.Cutter) (p api.PrefixInfo, ok bool) {
	bits, f := uint8(c.Num(1)), byte(c.Num(1))
	p.OnLink, p.Auto = f&onLinkFlag != 0, f&autoFlag != 0
	p.Valid, p.Preferred = uint32(c.Num(4)), uint32(c.Num(4))
	c.Bytes(prefixGap)
	p.Prefix = api.Prefix{Addr: addrs.Masked(readAddr(c), bits), Bits: bits}
	return p, bits <= addrBits
}

// MtuOf: of such an option. (P10.3)
func MtuOf(o api.Option) (uint32, bool) {
	return told(o, o.Kind == mtu, readNumber)
}

func readNumber(c *octets.Cutter) (n uint32, ok bool) {
	c.Bytes(numberGap)
	return uint32(c.Num(4)), true
}

// ServersOf: of such an option. (P10.3)
func ServersOf(o api.Option) (life uint32, l []api.Addr, ok bool) {
	s, ok := told(o, o.Kind == servers, readServers)
	return s.life, s.list, ok
}

func readServers(c *octets.Cutter) (s lasting[api.Addr], ok bool) {
	s.life, _ = readNumber(c)
	// Made at its full length, so that there is no room behind it.
	s.list = make([]api.Addr, c.Left()/len(api.Addr{}))
	for i := range s.list {
		s.list[i] = readAddr(c)
	}
	return s, len(s.list) > 0
}

func readAddr(c *octets.Cutter) (a api.Addr) {
	copy(a[:], c.Bytes(len(a)))
	return a
}

// DomainsOf: of such an option. (P10.4)
func DomainsOf(o api.Option) (life uint32, l []string, ok bool) {
	d, ok := told(o, o.Kind == domains, readDomains)
	return d.life, slices.Clip(d.list), ok
}
