package ready

import (
	"coxswain/api"
	"coxswain/bits"
	"coxswain/heap"
)

// ladder is a crowd by levels: the greatest one that has somebody is read off a word.
type ladder struct {
	// Which levels have somebody.
	taken uint64
	// Of each level those that have it; nil where nobody ever had it.
	levels [api.Levels]*heap.Heap
}

func (l *ladder) add(id int, p api.Prio) {
	if l.levels[p.Level] == nil {
		l.levels[p.Level] = heap.New()
	}
	// All of one key: then the least number is the one that the heap has first.
	l.levels[p.Level].Push(id, 0)
	l.taken = bits.Set(l.taken, p.Level)
}

func (l *ladder) drop(id int, p api.Prio) {
	l.levels[p.Level].Drop(id)
	if l.levels[p.Level].Len() == 0 {
		l.taken = bits.Clear(l.taken, p.Level)
	}
}

func (l *ladder) first() (int, bool) {
	top := bits.Top(l.taken)
	if top < 0 {
		return 0, false
	}
	item, ok := l.levels[top].Min()
	return item.ID, ok
}

func (l *ladder) all() []int {
	var list []int
	for _, level := range bits.All(l.taken) {
		list = append(list, numbers(l.levels[level])...)
	}
	return list
}

// dues is a crowd by dues: who is due first stands first in a heap.
type dues struct {
	due *heap.Heap
}

func newDues() *dues { return &dues{due: heap.New()} }

func (d *dues) add(id int, p api.Prio) { d.due.Push(id, p.Due) }

func (d *dues) drop(id int, p api.Prio) { d.due.Drop(id) }

func (d *dues) first() (int, bool) {
	item, ok := d.due.Min()
	return item.ID, ok
}

func (d *dues) all() []int { return numbers(d.due) }

// numbers answers who stands in h, the first one first.
func numbers(h *heap.Heap) []int {
	items := h.All()
	list := make([]int, len(items))
	for i, item := range items {
		list[i] = item.ID
	}
	return list
}
