package impl

const MaxBytes = 4000
const MaxVar = 1000000000

// more is what a byte of a number has on top where another byte follows it.
const more = 128

// A cursor goes along a list of bytes; it writes nothing into the list.
type cursor struct {
	list []int64
	at   int64
}

func (c *cursor) next() (int64, bool) {
	if c.at < 0 || c.at >= int64(len(c.list)) {
		return 0, false
	}
	b := c.list[c.at]
	c.at++
	return b, true
}

// number reads a number of the shortest form. It gives up at the first unit
// above MaxVar, so that no run of bytes, however long, can overflow the sum.
func (c *cursor) number() (int64, bool) {
	n := int64(0)
	for unit := int64(1); unit <= MaxVar; unit *= more {
		b, ok := c.next()
		if !ok {
			return 0, false
		}
		n += b % more * unit
		if b >= more {
			continue
		}
		longer := b == 0 && unit > 1
		if longer || n > MaxVar {
			return 0, false
		}
		return n, true
	}
	return 0, false
}

func BytesOk(b []int64) bool {
	if len(b) > MaxBytes {
		return false
	}
	for _, x := range b {
		if x < 0 || x > 255 {
			return false
		}
	}
	return true
}

func VarOf(n int64) []int64 {
	if n < 0 || n > MaxVar {
		return nil
	}
	var b []int64
	for n >= more {
		b = append(b, n%more+more)
		n /= more
	}
	return append(b, n)
}

func ReadVar(b []int64, at int64) (int64, int64, bool) {
	if !BytesOk(b) {
		return 0, 0, false
	}
	c := &cursor{list: b, at: at}
	n, ok := c.number()
	if !ok {
		return 0, 0, false
	}
	return n, c.at, true
}
