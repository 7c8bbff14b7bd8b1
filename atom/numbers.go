package atom

import "sync/atomic"

// numbers is a back that several goroutines may use at the same time.
type numbers []atomic.Uint64

func (n numbers) Len() int { return len(n) }

func (n numbers) Load(i int) uint64 { return n[i].Load() }

func (n numbers) Store(i int, v uint64) { n[i].Store(v) }

func (n numbers) Swap(i int, old, new uint64) bool { return n[i].CompareAndSwap(old, new) }

func (n numbers) Add(i int, d uint64) uint64 { return n[i].Add(d) }
