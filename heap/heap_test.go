package heap

import (
	"container/heap"
	"math"
	"slices"
	"testing"

	"coxswain/api"
)

// The chapter's way: the five methods that container/heap asks for are the package's own.
var _ heap.Interface = (*queue)(nil)

// rows keeps items as the promise tells them, without a heap: always in the order in which they are due.
type rows struct{ list []Item }

func (r *rows) place(id int) int {
	for i, item := range r.list {
		if item.ID == id {
			return i
		}
	}
	return -1
}

func (r *rows) has(id int) bool { return r.place(id) >= 0 }

func (r *rows) push(id int, key int) api.Errno {
	if id < 0 {
		return api.ErrArg
	}
	if r.has(id) {
		return api.ErrBusy
	}
	at := 0
	for at < len(r.list) && (r.list[at].Key < key || r.list[at].Key == key && r.list[at].ID < id) {
		at++
	}
	r.list = slices.Insert(r.list, at, Item{ID: id, Key: key})
	return api.OK
}

func (r *rows) drop(id int) bool {
	at := r.place(id)
	if at < 0 {
		return false
	}
	r.list = slices.Delete(r.list, at, at+1)
	return true
}

func (r *rows) move(id int, key int) bool {
	if !r.drop(id) {
		return false
	}
	r.push(id, key)
	return true
}

func (r *rows) min() (Item, bool) {
	if len(r.list) == 0 {
		return Item{}, false
	}
	return r.list[0], true
}

func (r *rows) pop() (Item, bool) {
	first, ok := r.min()
	r.drop(first.ID)
	return first, ok
}

// strangers are IDs that no heap of these tests holds, below 0 and above.
func strangers() []int {
	return []int{math.MinInt, math.MinInt + 1, -1 << 32, -65, -2, -1, 1 << 20, 1 << 32, math.MaxInt - 7}
}

// checkSame asks h all that it tells, and holds it against r.
func checkSame(t *testing.T, what string, h *Heap, r *rows) {
	t.Helper()
	if got := h.All(); !slices.Equal(got, r.list) {
		t.Fatalf("%s: All %v, not %v", what, got, r.list)
	}
	if got := h.Len(); got != len(r.list) {
		t.Fatalf("%s: Len %d, not %d", what, got, len(r.list))
	}
	got, ok := h.Min()
	if due, there := r.min(); got != due || ok != there {
		t.Fatalf("%s: Min %v %t, not %v %t", what, got, ok, due, there)
	}
	for _, item := range r.list {
		if !h.Has(item.ID) {
			t.Fatalf("%s: %d is not there", what, item.ID)
		}
	}
	for _, id := range strangers() {
		if h.Has(id) {
			t.Fatalf("%s: %d is there", what, id)
		}
	}
}

// checkEmptied pops all that h holds, and then once more.
func checkEmptied(t *testing.T, what string, h *Heap, r *rows) {
	t.Helper()
	for range len(r.list) + 1 {
		got, ok := h.Pop()
		if due, there := r.pop(); got != due || ok != there {
			t.Fatalf("%s: Pop %v %t, not %v %t", what, got, ok, due, there)
		}
		checkSame(t, what, h, r)
	}
}

// filled answers a heap of these items, pushed in the order in which they are listed, and the same as rows.
func filled(t *testing.T, list ...Item) (*Heap, *rows) {
	t.Helper()
	h, r := New(), &rows{}
	for _, item := range list {
		r.push(item.ID, item.Key)
		if e := h.Push(item.ID, item.Key); e != api.OK {
			t.Fatalf("Push(%d, %d): %d", item.ID, item.Key, e)
		}
	}
	return h, r
}

// P3.1: the document's example.
func TestExample(t *testing.T) {
	h, _ := filled(t, Item{1, 9}, Item{2, 4}, Item{3, 4})
	if got, ok := h.Pop(); got != (Item{2, 4}) || !ok {
		t.Errorf("Pop: %v %t", got, ok)
	}
	if !h.Move(1, 0) {
		t.Error("Move(1, 0): it is not there")
	}
	if got, ok := h.Pop(); got != (Item{1, 0}) || !ok {
		t.Errorf("Pop: %v %t", got, ok)
	}
	if got := h.All(); !slices.Equal(got, []Item{{3, 4}}) {
		t.Errorf("All: %v", got)
	}
}

// P3.1: New answers none; each answer is a heap of its own.
func TestNone(t *testing.T) {
	h := New()
	checkSame(t, "none", h, &rows{})
	checkEmptied(t, "none", h, &rows{})
	for _, id := range append(strangers(), 0, 1) {
		if h.Drop(id) || h.Move(id, 5) || h.Has(id) {
			t.Errorf("of none %d is there", id)
		}
	}
	checkSame(t, "none", h, &rows{})
	h.Push(3, 3)
	checkSame(t, "another one", New(), &rows{})
}

// P3.1: Push's errors, in their order.
func TestPush(t *testing.T) {
	cases := []struct {
		id, key int
		want    api.Errno
	}{
		{1, 9, api.OK}, {0, 9, api.OK}, {2, -9, api.OK},
		{1, 9, api.ErrBusy}, {1, 8, api.ErrBusy}, {1, 10, api.ErrBusy}, {0, 0, api.ErrBusy}, {2, -9, api.ErrBusy},
		{-1, 9, api.ErrArg}, {-1, 0, api.ErrArg}, {-2, -9, api.ErrArg},
		{math.MinInt, math.MinInt, api.ErrArg}, {math.MinInt, math.MaxInt, api.ErrArg},
		{math.MaxInt, math.MaxInt, api.OK}, {math.MaxInt, math.MinInt, api.ErrBusy},
		{math.MaxInt - 1, math.MinInt, api.OK}, {math.MaxInt - 1, 0, api.ErrBusy},
	}
	h, r := New(), &rows{}
	for _, c := range cases {
		r.push(c.id, c.key)
		if got := h.Push(c.id, c.key); got != c.want {
			t.Errorf("Push(%d, %d): %d, not %d", c.id, c.key, got, c.want)
		}
		checkSame(t, "after a push", h, r)
	}
	checkEmptied(t, "the pushed ones", h, r)
}

// P3.1: what is dropped or popped may be pushed again, with another key.
func TestPushAgain(t *testing.T) {
	h, r := filled(t, Item{4, 1}, Item{5, 2}, Item{6, 3})
	h.Drop(5)
	r.drop(5)
	h.Pop()
	r.pop()
	for _, item := range []Item{{5, 7}, {4, 5}} {
		if e := h.Push(item.ID, item.Key); e != api.OK {
			t.Errorf("Push(%d, %d) again: %d", item.ID, item.Key, e)
		}
		r.push(item.ID, item.Key)
		checkSame(t, "pushed again", h, r)
	}
	if e := h.Push(5, 0); e != api.ErrBusy {
		t.Errorf("Push(5, 0) a third time: %d", e)
	}
	checkEmptied(t, "pushed again", h, r)
}

// P3.1: of items of one key the least ID is due first, however they came.
func TestOneKey(t *testing.T) {
	for _, key := range []int{math.MinInt, -1, 0, 4, math.MaxInt} {
		h, r := New(), &rows{}
		for i := range 60 {
			id := i * 37 % 60
			h.Push(id, key)
			r.push(id, key)
			checkSame(t, "one key", h, r)
		}
		for i := 0; i < 60; i += 7 {
			h.Drop(i)
			r.drop(i)
		}
		h.Push(math.MaxInt, key)
		r.push(math.MaxInt, key)
		checkEmptied(t, "one key", h, r)
	}
}

// P3.1: the least and the greatest int as keys: the order hangs on no difference of theirs.
func TestEdgesOfKeys(t *testing.T) {
	keys := []int{math.MaxInt, 0, math.MinInt, 1, math.MinInt + 1, -1, math.MaxInt - 1, 1 << 62, -1 << 62}
	h, r := New(), &rows{}
	for i, key := range keys {
		h.Push(i, key)
		r.push(i, key)
	}
	checkSame(t, "edges", h, r)
	for id := range keys {
		for _, key := range keys {
			if !h.Move(id, key) || !r.move(id, key) {
				t.Fatalf("Move(%d, %d): it is not there", id, key)
			}
			checkSame(t, "moved to an edge", h, r)
		}
	}
	for i, key := range keys {
		h.Move(i, key)
		r.move(i, key)
	}
	checkEmptied(t, "edges", h, r)
}

// P3.1: the least and the greatest ID, of one key and of several.
func TestEdgesOfIDs(t *testing.T) {
	h, r := filled(t, Item{math.MaxInt, 0}, Item{0, 0}, Item{math.MaxInt - 1, 0}, Item{1, 0}, Item{1 << 33, -1}, Item{1 << 62, 1})
	checkSame(t, "edges", h, r)
	if !h.Move(math.MaxInt, -2) || !r.move(math.MaxInt, -2) {
		t.Error("Move of the greatest ID: it is not there")
	}
	checkSame(t, "the greatest moved", h, r)
	if !h.Drop(math.MaxInt) || h.Drop(math.MaxInt) || h.Has(math.MaxInt) {
		t.Error("Drop of the greatest ID")
	}
	if !h.Drop(0) || h.Drop(0) || h.Has(0) {
		t.Error("Drop of the least ID")
	}
	r.drop(math.MaxInt)
	r.drop(0)
	checkEmptied(t, "edges", h, r)
}

// tangled are n items, n no multiple of 37, of which many stand far from where their keys would put them if a heap lost its order.
func tangled(n int) []Item {
	list := make([]Item, n)
	for i := range list {
		list[i] = Item{ID: i * 37 % n, Key: i * 13 % n / 3}
	}
	return list
}

// P3.1: Drop of each item of a heap, one heap each.
func TestDropEach(t *testing.T) {
	const n = 40
	for id := range n {
		h, r := filled(t, tangled(n)...)
		r.drop(id)
		if !h.Drop(id) || h.Drop(id) {
			t.Errorf("Drop(%d): whether it was there", id)
		}
		checkSame(t, "one dropped", h, r)
		checkEmptied(t, "one dropped", h, r)
	}
}

// P3.1: Move of each item to each place, both upwards and downwards.
func TestMoveEach(t *testing.T) {
	const n = 25
	for id := range n {
		for key := -1; key <= n/3+1; key++ {
			h, r := filled(t, tangled(n)...)
			r.move(id, key)
			if !h.Move(id, key) {
				t.Errorf("Move(%d, %d): it is not there", id, key)
			}
			checkSame(t, "one moved", h, r)
			checkEmptied(t, "one moved", h, r)
		}
	}
}

// P3.1: Min and All tell, and change nothing; Pop takes out.
func TestMinAndAllKeepAll(t *testing.T) {
	h, r := filled(t, tangled(30)...)
	for range 5 {
		h.Min()
		h.All()
		h.Len()
		h.Has(3)
		h.Has(-3)
		checkSame(t, "asked", h, r)
	}
	first, _ := h.Pop()
	if h.Has(first.ID) || h.Drop(first.ID) || h.Move(first.ID, 1) || h.Len() != 29 {
		t.Errorf("%v is there behind Pop", first)
	}
}

// R5: a call that answers an error or a false changes nothing.
func TestRefusedChangesNothing(t *testing.T) {
	for _, n := range []int{0, 1, 2, 20} {
		h, r := filled(t, tangled(n)...)
		for _, key := range []int{math.MinInt, -1, 0, 3, 1000, math.MaxInt} {
			for _, id := range strangers() {
				if h.Drop(id) || h.Move(id, key) {
					t.Errorf("%d is there", id)
				}
				if id < 0 && h.Push(id, key) != api.ErrArg {
					t.Errorf("Push(%d, %d) is well", id, key)
				}
			}
			for _, item := range r.list {
				if e := h.Push(item.ID, key); e != api.ErrBusy {
					t.Errorf("Push(%d, %d): %d", item.ID, key, e)
				}
			}
			checkSame(t, "refused", h, r)
		}
		checkEmptied(t, "refused", h, r)
	}
}

// R3: a nil heap.
func TestNil(t *testing.T) {
	var h *Heap
	for _, id := range append(strangers(), 0, 1) {
		if e := h.Push(id, 1); e != api.ErrNil {
			t.Errorf("Push(%d, 1): %d", id, e)
		}
		if h.Drop(id) || h.Move(id, 1) || h.Has(id) {
			t.Errorf("of a nil heap %d is there", id)
		}
	}
	if got, ok := h.Pop(); got != (Item{}) || ok {
		t.Errorf("Pop: %v %t", got, ok)
	}
	if got, ok := h.Min(); got != (Item{}) || ok {
		t.Errorf("Min: %v %t", got, ok)
	}
	if h.Len() != 0 || len(h.All()) != 0 {
		t.Errorf("Len %d, All %v", h.Len(), h.All())
	}
}

// R4: an answered list is new memory, its spare room too: neither the heap nor another answer changes with it, nor it with the heap.
func TestAllIsNewMemory(t *testing.T) {
	for n := range 20 {
		h, r := filled(t, tangled(n)...)
		first, second := h.All(), h.All()
		first = first[:cap(first)]
		for i := range first {
			first[i] = Item{ID: 900 + i, Key: -900}
		}
		if !slices.Equal(second, r.list) {
			t.Errorf("%v became %v with another answer", r.list, second)
		}
		checkSame(t, "an answer changed", h, r)
		h.Push(1000, -1)
		h.Move(0, 77)
		h.Pop()
		if !slices.Equal(second, r.list) {
			t.Errorf("%v became %v with the heap", r.list, second)
		}
	}
}

// kinds are the calls that change a heap, on IDs and keys so few that they meet; they answer the same of h and of r.
func kinds() []func(h *Heap, r *rows) bool {
	list := []func(h *Heap, r *rows) bool{
		func(h *Heap, r *rows) bool {
			got, ok := h.Pop()
			due, there := r.pop()
			return got == due && ok == there
		},
	}
	for id := -1; id < 3; id++ {
		list = append(list, func(h *Heap, r *rows) bool { return h.Drop(id) == r.drop(id) })
		for key := range 2 {
			list = append(list,
				func(h *Heap, r *rows) bool { return h.Push(id, key) == r.push(id, key) },
				func(h *Heap, r *rows) bool { return h.Move(id, key) == r.move(id, key) })
		}
	}
	return list
}

// P3.1: all plays of four calls on few IDs and keys.
func TestAllShortPlays(t *testing.T) {
	const length = 4
	calls := kinds()
	plays := 1
	for range length {
		plays *= len(calls)
	}
	for play := range plays {
		h, r := New(), &rows{}
		for rest, i := play, 0; i < length; i++ {
			if !calls[rest%len(calls)](h, r) {
				t.Fatalf("play %d: call %d answers something else", play, i)
			}
			rest /= len(calls)
		}
		checkSame(t, "a short play", h, r)
	}
}

// P3.1: long plays by a rule of their own, on many IDs and keys.
func TestLongPlays(t *testing.T) {
	state := uint64(1)
	draw := func(n int) int {
		state = state*6364136223846793005 + 1442695040888963407
		return int(state >> 33 % uint64(n))
	}
	for play := range 20 {
		h, r := New(), &rows{}
		ids, keys := 1+draw(60), 1+draw(30)
		for step := range 500 {
			id, key, same := draw(ids), draw(keys)-keys/2, false
			switch draw(7) {
			case 0, 1, 2:
				same = h.Push(id, key) == r.push(id, key)
			case 3, 4:
				same = h.Move(id, key) == r.move(id, key)
			case 5:
				same = h.Drop(id) == r.drop(id)
			case 6:
				got, ok := h.Pop()
				due, there := r.pop()
				same = got == due && ok == there
			}
			if !same {
				t.Fatalf("play %d: step %d answers something else", play, step)
			}
			checkSame(t, "a long play", h, r)
		}
		checkEmptied(t, "a long play", h, r)
	}
}

// A great heap: calls end in a time that the sizes explain.
func TestManyItems(t *testing.T) {
	const n = 1 << 17
	h := New()
	for i := range n {
		h.Push(i, -i)
	}
	for i := 0; i < n; i += 2 {
		h.Move(i, i)
	}
	for i := 1; i < n; i += 4 {
		h.Drop(i)
	}
	list := h.All()
	if len(list) != n-n/4 || h.Len() != len(list) {
		t.Fatalf("All tells %d, Len %d, not %d", len(list), h.Len(), n-n/4)
	}
	for _, due := range list {
		if got, ok := h.Pop(); got != due || !ok {
			t.Fatalf("Pop: %v %t, not %v", got, ok, due)
		}
	}
}
