package options

import (
	"slices"
	"strings"

	"sojourner/octets"
)

// Of how many bytes a name, and each of its parts, is at most.
const (
	maxName = 253
	maxPart = 63
)

// dot is between each two parts of a name.
const dot = "."

// isName tells whether a text is a name.
func isName(s string) bool {
	if len(s) > maxName {
		return false
	}
	for _, part := range strings.Split(s, dot) {
		if !isPart(part) {
			return false
		}
	}
	return true
}

// isPart tells whether a text may be a part of a name.
func isPart(s string) bool {
	for i := range len(s) {
		if !inPart(s[i]) {
			return false
		}
	}
	return len(s) >= 1 && len(s) <= maxPart
}

// inPart tells whether a byte may be in a part of a name.
func inPart(x byte) bool {
	return x >= 'a' && x <= 'z' || x >= '0' && x <= '9' || x == '-'
}

// nameBytes is a name's bytes.
func nameBytes(name string) []byte {
	var b []byte
	for _, part := range strings.Split(name, dot) {
		b = append(b, byte(len(part)))
		b = append(b, part...)
	}
	return append(b, 0)
}

// readDomains: how many seconds, and the names that are there, one at least.
func readDomains(c *octets.Cutter) (d lasting[string], ok bool) {
	d.life, _ = readNumber(c)
	for c.Left() > 0 {
		name, sound := readName(c)
		if !sound {
			return d, false
		}
		// A nought where a name would begin: noughts alone may follow it.
		if name == "" {
			return d, len(d.list) > 0 && areNoughts(c.Rest())
		}
		d.list = append(d.list, name)
	}
	return d, len(d.list) > 0
}

// readName: a name out of its bytes, and whether they are sound; no text, if its end is there at once.
func readName(c *octets.Cutter) (string, bool) {
	add, name := builder()
	for many := c.Num(1); many > 0; many = c.Num(1) {
		// A part that is cut short is one of no bytes here, and those are none.
		if !add(string(c.Bytes(int(many)))) {
			return "", false
		}
	}
	return name(), !c.Bad()
}

// builder is two functions on one text: the first takes a name's next part, and tells whether it is still a name; the second tells it.
func builder() (add func(part string) bool, name func() string) {
	text := ""
	add = func(part string) bool {
		if text != "" {
			text += dot
		}
		text += part
		return isPart(part) && len(text) <= maxName
	}
	return add, func() string { return text }
}

// areNoughts tells whether all bytes are noughts.
func areNoughts(b []byte) bool {
	return !slices.ContainsFunc(b, func(x byte) bool { return x != 0 })
}
