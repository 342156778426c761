package pool_test

import (
	"math"
	"math/rand"
	"slices"
	"testing"

	"gnomon/api"
	"gnomon/pool"
)

// noSizes are numbers of which there is no pool, those beside the least and the greatest one among them, and those that would be one, if they were cut to fewer bits.
var noSizes = []int{
	0, -1, -2, -16, -17, 17, 18, 31, 32, 63, 64, 65, 80, 1 << 8, 1<<8 + 1, 1<<8 + 16, 1 << 16, 1<<16 + 2, 1<<31 - 1, 1 << 31, 1 << 32, 1<<32 + 1, 1<<32 + 16, 1<<62 + 1,
	-1 << 8, -1<<8 + 1, -1 << 16, -1<<31 + 1, -1 << 32, -1<<32 + 1, -1<<32 + 16, math.MaxInt, math.MaxInt - 1, math.MinInt, math.MinInt + 1, math.MinInt + 16,
}

// strangers tells numbers that are none of a pool of that size, the two beside its own among them.
func strangers(size int) []int {
	return []int{
		-1, -2, -size, -16, -64, size, size + 1, size + 16, 16, 17, 31, 32, 63, 64, 64 + size - 1, 65, 128, 1 << 8, 1<<8 + size - 1, 1 << 16, 1<<31 - 1, 1 << 31, 1 << 32, 1<<32 + size - 1,
		-1 << 8, -1<<8 + size - 1, -1 << 31, -1 << 32, -1<<32 + size - 1, math.MaxInt, math.MaxInt - 63, math.MinInt, math.MinInt + size - 1,
	}
}

// made tells a pool that may be.
func made(t *testing.T, size int) *pool.Pool {
	t.Helper()
	p, e := pool.New(size)
	if e != api.OK || p == nil {
		t.Fatalf("New(%d): %v, %v", size, p, e)
	}
	return p
}

// upTo tells the numbers from 0 to n - 1.
func upTo(n int) []int {
	var all []int
	for i := range n {
		all = append(all, i)
	}
	return all
}

// takes holds a Take to what it must tell.
func takes(t *testing.T, p *pool.Pool, want int, wantE api.Errno) {
	t.Helper()
	if n, e := p.Take(); n != want || e != wantE {
		t.Fatalf("Take: %d, %v, not %d, %v", n, e, want, wantE)
	}
}

// gives holds a Give to what it must tell.
func gives(t *testing.T, p *pool.Pool, n int, want api.Errno) {
	t.Helper()
	if e := p.Give(n); e != want {
		t.Fatalf("Give(%d): %v, not %v", n, e, want)
	}
}

// hasFree holds a Free to what it must tell.
func hasFree(t *testing.T, p *pool.Pool, want ...int) {
	t.Helper()
	if got := p.Free(); !slices.Equal(got, want) {
		t.Fatalf("Free: %v, not %v", got, want)
	}
}

// model is a pool as the chapter says it: a plain list of what is free, in no order.
type model struct {
	size int
	free []int
}

func (m *model) take() (int, api.Errno) {
	if len(m.free) == 0 {
		return 0, api.ErrFull
	}
	n := slices.Min(m.free)
	m.free = slices.DeleteFunc(m.free, func(f int) bool { return f == n })
	return n, api.OK
}

func (m *model) give(n int) api.Errno {
	if !slices.Contains(upTo(m.size), n) {
		return api.ErrArg
	}
	if slices.Contains(m.free, n) {
		return api.ErrState
	}
	m.free = append(m.free, n)
	return api.OK
}

func (m *model) rising() []int { return slices.Sorted(slices.Values(m.free)) }

// both is a pool and its model, which are told the same.
type both struct {
	pool  *pool.Pool
	model *model
}

func bothOf(t *testing.T, size int) both {
	t.Helper()
	return both{pool: made(t, size), model: &model{size: size, free: upTo(size)}}
}

func (b both) take(t *testing.T) {
	t.Helper()
	n, e := b.model.take()
	takes(t, b.pool, n, e)
}

func (b both) give(t *testing.T, n int) {
	t.Helper()
	gives(t, b.pool, n, b.model.give(n))
}

func (b both) look(t *testing.T) {
	t.Helper()
	hasFree(t, b.pool, b.model.rising()...)
}

// P12.1

func TestExamples(t *testing.T) {
	p := made(t, 2)
	takes(t, p, 0, api.OK)
	takes(t, p, 1, api.OK)
	takes(t, p, 0, api.ErrFull)
	gives(t, p, 0, api.OK)
	gives(t, p, 0, api.ErrState)
	gives(t, p, 2, api.ErrArg)
	gives(t, p, -1, api.ErrArg)
	hasFree(t, p, 0)
	takes(t, p, 0, api.OK)
	for _, size := range []int{0, 17} {
		if p, e := pool.New(size); p != nil || e != api.ErrArg {
			t.Errorf("New(%d): %v, %v", size, p, e)
		}
	}
}

func TestNoPoolOfThatSize(t *testing.T) {
	for _, size := range noSizes {
		if p, e := pool.New(size); p != nil || e != api.ErrArg {
			t.Errorf("New(%d): %v, %v", size, p, e)
		}
	}
}

// Just so many are allowed as MaxStripes says, and there is a pool of one.
func TestEverySize(t *testing.T) {
	for size := range 300 {
		p, e := pool.New(size)
		if size < 1 || size > api.MaxStripes {
			if p != nil || e != api.ErrArg {
				t.Fatalf("New(%d): %v, %v", size, p, e)
			}
			continue
		}
		if p == nil || e != api.OK {
			t.Fatalf("New(%d): %v, %v", size, p, e)
		}
		hasFree(t, p, upTo(size)...)
	}
}

// The least number comes first, and what comes behind the last one is refused, as often as it is asked for.
func TestTakeRises(t *testing.T) {
	for size := 1; size <= api.MaxStripes; size++ {
		p := made(t, size)
		for n := range size {
			hasFree(t, p, upTo(size)[n:]...)
			takes(t, p, n, api.OK)
		}
		for range 3 {
			hasFree(t, p)
			takes(t, p, 0, api.ErrFull)
		}
	}
}

// A number that is none of the pool's is refused, whether all are free, some, or none; nothing is changed by that.
func TestGiveOfAStranger(t *testing.T) {
	for size := 1; size <= api.MaxStripes; size++ {
		p := made(t, size)
		for taken := range size + 1 {
			for _, n := range strangers(size) {
				gives(t, p, n, api.ErrArg)
				hasFree(t, p, upTo(size)[taken:]...)
			}
			if taken < size {
				takes(t, p, taken, api.OK)
			}
		}
		takes(t, p, 0, api.ErrFull)
	}
}

// A number that is free is refused, and stays so.
func TestGiveOfWhatIsFree(t *testing.T) {
	for size := 1; size <= api.MaxStripes; size++ {
		p := made(t, size)
		for n := range size {
			gives(t, p, n, api.ErrState)
			hasFree(t, p, upTo(size)...)
		}
		for range size {
			p.Take()
		}
		for n := range size {
			gives(t, p, n, api.OK)
			hasFree(t, p, n)
			gives(t, p, n, api.ErrState)
			hasFree(t, p, n)
			takes(t, p, n, api.OK)
		}
	}
}

// In whatever order they were given, the least one is taken first.
func TestGivenInAnyOrder(t *testing.T) {
	r := rand.New(rand.NewSource(121))
	for range 500 {
		size := 1 + r.Intn(api.MaxStripes)
		b := bothOf(t, size)
		for range size {
			b.take(t)
		}
		for _, n := range r.Perm(size)[:r.Intn(size+1)] {
			b.give(t, n)
			b.look(t)
		}
		for range size + 1 {
			b.take(t)
			b.look(t)
		}
	}
}

// withFree tells a pool of which just those numbers are free whose bits are set.
func withFree(t *testing.T, size int, set uint) both {
	t.Helper()
	b := bothOf(t, size)
	for range size {
		b.take(t)
	}
	for n := range size {
		if set>>n&1 == 1 {
			b.give(t, n)
		}
	}
	return b
}

// Whatever is free of whatever pool, each call behind that answers as said. (The greatest pools have many sets: of them, each Take, and one Give.)
func TestEveryCallBehindEverySet(t *testing.T) {
	for size := 1; size <= api.MaxStripes; size++ {
		for set := range uint(1) << size {
			if size > 8 {
				b := withFree(t, size, set)
				b.look(t)
				b.give(t, int(set%uint(size)))
				b.take(t)
				b.look(t)
				continue
			}
			for n := -1; n <= size; n++ {
				b := withFree(t, size, set)
				b.give(t, n)
				b.look(t)
				b.take(t)
				b.look(t)
			}
		}
	}
}

// allCalls tells every list of so many calls of a pool of that size: 0 is a Take, 1 a Free, the others are Gives from -1 on.
func allCalls(size, calls int, tell func(list []int)) {
	list := make([]int, calls)
	var from func(i int)
	from = func(i int) {
		if i == calls {
			tell(list)
			return
		}
		for c := range size + 4 {
			list[i] = c
			from(i + 1)
		}
	}
	from(0)
}

func (b both) call(t *testing.T, c int) {
	t.Helper()
	switch c {
	case 0:
		b.take(t)
	case 1:
		b.look(t)
	default:
		b.give(t, c-3)
	}
}

func TestEveryOrderOfFewCalls(t *testing.T) {
	for _, c := range []struct{ size, calls int }{{1, 6}, {2, 6}, {3, 5}, {4, 5}} {
		allCalls(c.size, c.calls, func(list []int) {
			b := bothOf(t, c.size)
			for _, c := range list {
				b.call(t, c)
			}
			b.look(t)
		})
	}
}

func TestManyOrdersOfManyCalls(t *testing.T) {
	r := rand.New(rand.NewSource(122))
	for size := 1; size <= api.MaxStripes; size++ {
		others := strangers(size)
		for range 100 {
			b := bothOf(t, size)
			mostly := r.Intn(5) // so that some pools are often full, and some often empty
			for range 200 {
				switch r.Intn(8) {
				case 0, 1:
					b.take(t)
				case 2:
					b.look(t)
				case 3:
					b.give(t, others[r.Intn(len(others))])
				default:
					if r.Intn(5) < mostly {
						b.take(t)
					} else {
						b.give(t, r.Intn(size))
					}
				}
			}
			b.look(t)
		}
	}
}

// What is asked for, and what is refused, changes nothing, however often.
func TestAskingChangesNothing(t *testing.T) {
	r := rand.New(rand.NewSource(123))
	for range 200 {
		size := 1 + r.Intn(api.MaxStripes)
		b := withFree(t, size, uint(r.Intn(1<<size)))
		for range 50 {
			b.look(t)
			gives(t, b.pool, -1-r.Intn(100), api.ErrArg)
			gives(t, b.pool, size+r.Intn(100), api.ErrArg)
			for _, n := range b.model.free {
				gives(t, b.pool, n, api.ErrState)
			}
			if len(b.model.free) == 0 {
				takes(t, b.pool, 0, api.ErrFull)
			}
		}
		b.look(t)
	}
}

// P12.2

// Who has a number has it alone till it is given; as many have one at a time as there are, neither more nor fewer.
func TestNoNumberIsTakenTwice(t *testing.T) {
	r := rand.New(rand.NewSource(124))
	for size := 1; size <= api.MaxStripes; size++ {
		p := made(t, size)
		var held []int
		most := 0
		for range 2000 {
			if r.Intn(2) == 0 && len(held) > 0 {
				i := r.Intn(len(held))
				gives(t, p, held[i], api.OK)
				held = slices.Delete(held, i, i+1)
				continue
			}
			n, e := p.Take()
			if full := len(held) == size; full != (e == api.ErrFull) || !full && e != api.OK {
				t.Fatalf("size %d, %d are taken: %v", size, len(held), e)
			}
			if e != api.OK {
				continue
			}
			if n < 0 || n >= size || slices.Contains(held, n) {
				t.Fatalf("size %d: %d is taken, where %v are", size, n, held)
			}
			held = append(held, n)
			most = max(most, len(held))
		}
		if most != size {
			t.Fatalf("size %d: at most %d were taken at one time", size, most)
		}
	}
}

// All can be taken and given again and again.
func TestAllAgainAndAgain(t *testing.T) {
	for size := 1; size <= api.MaxStripes; size++ {
		p := made(t, size)
		for range 300 {
			for n := range size {
				takes(t, p, n, api.OK)
			}
			takes(t, p, 0, api.ErrFull)
			for n := range size {
				gives(t, p, size-1-n, api.OK)
			}
			hasFree(t, p, upTo(size)...)
		}
	}
}

// P12.3

// What is taken of one pool is free in another one, whichever was made first; so it is with as many as there are sizes.
func TestPoolsAreApart(t *testing.T) {
	a, b := made(t, 3), made(t, 3)
	takes(t, a, 0, api.OK)
	takes(t, a, 1, api.OK)
	hasFree(t, b, 0, 1, 2)
	gives(t, b, 0, api.ErrState)
	takes(t, b, 0, api.OK)
	gives(t, a, 0, api.OK)
	hasFree(t, a, 0, 2)
	hasFree(t, b, 1, 2)
	hasFree(t, made(t, 3), 0, 1, 2)
	hasFree(t, a, 0, 2)

	r := rand.New(rand.NewSource(125))
	var all []both
	for size := 1; size <= api.MaxStripes; size++ {
		all = append(all, bothOf(t, size), bothOf(t, size))
	}
	for range 3000 {
		b := all[r.Intn(len(all))]
		b.call(t, r.Intn(b.model.size+4))
		all[r.Intn(len(all))].look(t)
	}
	for _, b := range all {
		b.look(t)
	}
}

// spoil writes over all of a list, its spare room too.
func spoil(list []int) {
	list = list[:cap(list)]
	for i := range list {
		list[i] = -77
	}
}

// Whoever is told a list may write over it, and over its spare room: neither the pool nor a list told before or behind it is changed.
func TestAListIsItsOwners(t *testing.T) {
	for size := 1; size <= api.MaxStripes; size++ {
		for taken := range size + 1 {
			p := made(t, size)
			for range taken {
				p.Take()
			}
			want := upTo(size)[taken:]
			before := p.Free()
			spoiled := p.Free()
			spoil(spoiled)
			behind := p.Free()
			if !slices.Equal(before, want) || !slices.Equal(behind, want) {
				t.Fatalf("size %d: %v and %v, not %v", size, before, behind, want)
			}
			spoil(before[len(before):])
			spoil(behind)
			if !slices.Equal(before, want) {
				t.Fatalf("size %d: %v, not %v", size, before, want)
			}
			hasFree(t, p, want...)
			if taken < size {
				takes(t, p, taken, api.OK)
				gives(t, p, taken, api.OK)
			}
			hasFree(t, p, want...)
		}
	}
}

// Two lists share no memory, neither their numbers nor their spare room, whether they are of one pool or of two.
func TestNoTwoListsShareMemory(t *testing.T) {
	for size := 1; size <= api.MaxStripes; size++ {
		p, q := made(t, size), made(t, size)
		for range size + 1 {
			var lists [][]int
			for range 4 {
				lists = append(lists, p.Free(), q.Free())
			}
			for i, list := range lists {
				list = list[:cap(list)]
				for at := range list {
					list[at] = 100 + i
				}
			}
			for i, list := range lists {
				for _, n := range list[:cap(list)] {
					if n != 100+i {
						t.Fatalf("size %d: the list %d has a number of the list %d", size, i, n-100)
					}
				}
			}
			p.Take()
			q.Take()
		}
	}
}

// A list that was told stays as it was, whatever is taken and given behind it.
func TestAListThatWasToldStays(t *testing.T) {
	p := made(t, 4)
	all := p.Free()
	takes(t, p, 0, api.OK)
	three := p.Free()
	for range 3 {
		p.Take()
	}
	none := p.Free()
	gives(t, p, 2, api.OK)
	if !slices.Equal(all, []int{0, 1, 2, 3}) || !slices.Equal(three, []int{1, 2, 3}) || len(none) != 0 {
		t.Errorf("%v, %v, %v", all, three, none)
	}
	hasFree(t, p, 2)
}
