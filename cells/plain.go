package cells

// plain is a back for one goroutine at a time.
type plain []uint64

func (p plain) Len() int { return len(p) }

func (p plain) Load(i int) uint64 { return p[i] }

func (p plain) Store(i int, v uint64) { p[i] = v }

func (p plain) Swap(i int, old, new uint64) bool {
	if p[i] != old {
		return false
	}
	p[i] = new
	return true
}

func (p plain) Add(i int, d uint64) uint64 {
	p[i] += d
	return p[i]
}
