// Package octets is layer 1: bytes, cut in order. See doc/01-octets.md.
package octets

// most is how many bytes the widest number has.
const most = 8

// Cutter of bytes. See doc/01-octets.md.
// Sound is false in the zero value, so that one that no call made counts as spoilt.
type Cutter struct {
	left  []byte
	sound bool
}

// Of: a cutter of bytes. (P1.1)
func Of(b []byte) *Cutter {
	left := make([]byte, len(b))
	copy(left, b)
	return &Cutter{left: left, sound: true}
}

// Num: the next number, of so many bytes. (P1.2)
func (c *Cutter) Num(many int) uint64 {
	if !isWidth(many) {
		c.spoil()
		return 0
	}
	var n uint64
	for _, x := range c.Bytes(many) {
		n = n<<8 | uint64(x)
	}
	return n
}

// Bytes: the next ones. (P1.2)
func (c *Cutter) Bytes(n int) []byte {
	if c.Bad() {
		return nil
	}
	if n < 0 || n > len(c.left) {
		c.spoil()
		return nil
	}
	// The third index keeps whoever appends to the answer out of what is still left.
	head := c.left[:n:n]
	c.left = c.left[n:]
	return head
}

// Rest: all that are left. (P1.3)
func (c *Cutter) Rest() []byte { return c.Bytes(c.Left()) }

// Left: how many. (P1.3)
func (c *Cutter) Left() int {
	if c == nil {
		return 0
	}
	return len(c.left)
}

// Bad: is it spoilt? (P1.3)
func (c *Cutter) Bad() bool { return c == nil || !c.sound }

// spoil lets the bytes go too, so that nothing can be cut from it any more.
func (c *Cutter) spoil() {
	if c != nil {
		*c = Cutter{}
	}
}

// Put: a number more. (P1.4)
func Put(b []byte, n uint64, many int) []byte {
	if !isWidth(many) {
		many = most
	}
	// Made at its full length, so that there is no room behind it, and b's own room stays as it was.
	out := make([]byte, len(b)+many)
	copy(out, b)
	for i := range many {
		out[len(out)-1-i] = byte(n)
		n >>= 8
	}
	return out
}

// isWidth tells whether a number may have so many bytes.
func isWidth(many int) bool { return many >= 1 && many <= most }
