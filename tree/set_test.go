package tree_test

import (
	"math/rand"
	"slices"
	"strings"
	"testing"

	"twinlock/api"
	"twinlock/tree"
)

// Paths of all kinds, of each bucket: new ones, with other values, with the same once more.
func TestP152Set(t *testing.T) {
	for _, l := range [][]string{goodPaths(), oneEach()} {
		a := start(t)
		for _, p := range l {
			a.setTo(t, api.OK, p, "1")
			a.setTo(t, api.OK, p, "2")
			a.setTo(t, api.OK, p, "2")
			a.setTo(t, api.OK, p, "")
			a.setTo(t, api.OK, p, valued(32))
		}
		a.looks(t)
		for _, p := range slices.Backward(l) {
			a.setTo(t, api.OK, p, p[len(p)/2:])
		}
		a.looks(t)
	}
}

// Values of each length, and of each byte.
func TestP152Values(t *testing.T) {
	a := start(t)
	for n := range maxValue + 1 {
		a.setTo(t, api.OK, "app/a", valued(n))
		a.setTo(t, api.OK, "app/b", letters(n))
		a.setTo(t, api.OK, "app/c", strings.Repeat("\x00", n))
	}
	for c := range 256 {
		a.setTo(t, api.OK, "app/a", string([]byte{byte(c)}))
	}
	for _, n := range []int{33, 34, 63, 64, 256, 288, huge} {
		a.setTo(t, api.ErrLong, "app/a", valued(n))
		a.setTo(t, api.ErrLong, "app/new", letters(n))
	}
	a.looks(t)
}

// Sixteen paths, one of each bucket: each leaf goes its own way, and comes back.
func TestP152Buckets(t *testing.T) {
	none := reckoned(nil)
	for i, p := range oneEach() {
		if bucketOf(p) != i {
			t.Fatalf("%s is of the bucket %d", p, bucketOf(p))
		}
		a := start(t)
		a.setTo(t, api.OK, p, "1")
		w := tell(a.x)
		for k, s := range spots() {
			// Just the leaf and what is above it are others.
			if above := i>>(depth-s.level) == s.i; (w.nodes[k] != none.nodes[k]) != above {
				t.Errorf("%s set: Node(%d, %d) is %x", p, s.level, s.i, w.nodes[k])
			}
		}
		a.dropTo(t, true, p)
		a.looks(t)
	}
}

// Paths that are none, and values that are too long.
func TestP152Errors(t *testing.T) {
	for _, n := range []int{0, 1, 20, 47, 48} {
		a := with(t, many(n)...)
		for _, p := range noPaths() {
			a.setTo(t, api.ErrKey, p, "")
			a.setTo(t, api.ErrKey, p, "1")
			a.setTo(t, api.ErrKey, p, valued(32))
			a.setTo(t, api.ErrKey, p, valued(33))
		}
		a.setTo(t, api.ErrKey, "app", valued(huge))
		a.setTo(t, api.ErrLong, "app/a", valued(33))
		a.setTo(t, api.ErrLong, longest(), valued(huge))
		for _, x := range many(n) {
			a.setTo(t, api.ErrLong, x.Path, valued(33))
		}
		a.looks(t)
	}
}

// Two errors at once: the one is told that is named first.
func TestP152Order(t *testing.T) {
	full := with(t, many(48)...)
	there := many(48)[7].Path
	var none *tree.Tree
	for _, x := range []struct {
		e    api.Errno
		p, v string
	}{
		{api.ErrFull, "app/new", ""},
		{api.ErrFull, "app/new", valued(32)},
		{api.ErrLong, "app/new", valued(33)},
		{api.ErrLong, there, valued(33)},
		{api.ErrKey, "app", "1"},
		{api.ErrKey, "app", valued(33)},
		{api.ErrKey, "", valued(huge)},
	} {
		full.setTo(t, x.e, x.p, x.v)
		if e := none.Set(x.p, x.v); e != api.ErrNil {
			t.Errorf("Set(%.99q, %.99q) to a nil tree: %d", x.p, x.v, e)
		}
	}
	if e := none.Set("app/a", "1"); e != api.ErrNil {
		t.Errorf("Set to a nil tree: %d", e)
	}
	full.looks(t)
	open := with(t, many(47)...)
	open.setTo(t, api.ErrKey, "app", valued(33))
	open.setTo(t, api.ErrLong, "app/new", valued(33))
	open.setTo(t, api.OK, "app/new", valued(32))
	open.setTo(t, api.ErrFull, "app/newer", "")
}

// The 48th path and the 49th, of all buckets or of one alone; what is there when the tree is full may be set.
func TestP152Full(t *testing.T) {
	rows := [][]api.Pair{many(49)}
	for i := range buckets {
		rows = append(rows, inOne(i, 49))
	}
	for _, l := range rows {
		a := with(t, l[:46]...)
		a.sets(t, l[46:48]...)
		a.setTo(t, api.ErrFull, l[48].Path, l[48].Value)
		for _, p := range append(oneEach(), goodPaths()...) {
			a.setTo(t, api.ErrFull, p, "1")
		}
		for _, x := range l[:48] {
			a.setTo(t, api.OK, x.Path, "other")
			a.setTo(t, api.OK, x.Path, "other")
			a.setTo(t, api.OK, x.Path, x.Value)
		}
		a.looks(t)
		a.dropTo(t, false, l[48].Path, "app/a")
		a.setTo(t, api.ErrFull, l[48].Path, "")
		a.dropTo(t, true, l[20].Path)
		a.setTo(t, api.OK, l[48].Path, "")
		a.setTo(t, api.ErrFull, l[20].Path, "")
		a.looks(t)
	}
}

// What is refused does not count: behind it there is as much room as ahead.
func TestP152Room(t *testing.T) {
	a := start(t)
	for i, x := range many(48) {
		for range 3 {
			a.setTo(t, api.ErrKey, "app", "1")
			a.setTo(t, api.ErrLong, "app/new", valued(33))
			a.dropTo(t, false, "app/new")
		}
		a.setTo(t, api.OK, x.Path, x.Value)
		if i%5 == 0 {
			a.dropTo(t, true, x.Path)
			a.dropTo(t, false, x.Path)
			a.setTo(t, api.OK, x.Path, x.Value)
		}
	}
	a.setTo(t, api.ErrFull, "app/new", "1")
	for _, x := range many(48) {
		a.dropTo(t, true, x.Path)
	}
	a.looks(t)
	a.sets(t, many(48)...)
	a.setTo(t, api.ErrFull, "app/new", "1")
}

// Drop of a path that is there, that is not, that is none, twice.
func TestP152Drop(t *testing.T) {
	a := start(t)
	for _, l := range [][]string{goodPaths(), noPaths(), oneEach()} {
		a.dropTo(t, false, l...)
	}
	var l []api.Pair
	for _, p := range goodPaths() {
		l = append(l, pair(p, "1"))
	}
	for i, x := range l {
		b := with(t, l...)
		b.dropTo(t, true, x.Path)
		b.dropTo(t, false, x.Path)
		for _, p := range []string{x.Path + "x", x.Path[:len(x.Path)-1], x.Path[1:], x.Path + "\x00", x.Path + "/", "/" + x.Path, strings.ToUpper(x.Path)} {
			if !slices.Contains(goodPaths(), p) {
				b.dropTo(t, false, p)
			}
		}
		if i%7 == 0 {
			b.dropTo(t, false, noPaths()...)
			b.looks(t)
		}
		b.setTo(t, api.OK, x.Path, "2")
	}
	b := with(t, l...)
	for i := range l {
		b.dropTo(t, true, l[(i*5+3)%len(l)].Path)
	}
	b.looks(t)
	b.sets(t, l...)
}

// Drop out of a bucket of many: the first one, the last one, those between.
func TestP152DropOne(t *testing.T) {
	for _, n := range []int{1, 2, 3, 48} {
		l := inOne(n%buckets, n)
		for _, i := range []int{0, 1, n / 2, n - 1} {
			if i < n {
				a := with(t, l...)
				a.dropTo(t, true, l[i].Path)
				a.dropTo(t, false, l[i].Path)
				a.setTo(t, api.OK, l[i].Path, "new")
			}
		}
		a := with(t, l...)
		for _, x := range slices.Backward(l) {
			a.dropTo(t, true, x.Path)
		}
		a.sets(t, l...)
		for _, x := range l {
			a.dropTo(t, true, x.Path)
		}
		a.looks(t)
	}
}

// What was handed in stays, and may be written over behind the call.
func TestP152Kept(t *testing.T) {
	a := start(t)
	for _, x := range append(many(30), pair(longest(), valued(32))) {
		p, v := []byte(x.Path), []byte(x.Value)
		for range 2 {
			copy(p, x.Path)
			copy(v, x.Value)
			a.has[x.Path] = x.Value
			if e := a.x.Set(textOn(p), textOn(v)); e != api.OK {
				t.Fatal(e)
			}
			if string(p) != x.Path || string(v) != x.Value {
				t.Fatalf("Set: %q, %q became %q, %q", x.Path, x.Value, p, v)
			}
			a.stands(t)
			clear(p)
			clear(v)
			a.stands(t)
		}
	}
	for _, x := range many(30) {
		p := []byte(x.Path)
		if !a.x.Drop(textOn(p)) || string(p) != x.Path {
			t.Fatalf("Drop(%q): %q", x.Path, p)
		}
		clear(p)
		delete(a.has, x.Path)
		a.stands(t)
	}
}

// All rows of four out of some calls: two paths of one bucket, one of the next, beginnings, and wrong ones.
func TestP152Rows(t *testing.T) {
	calls := []func(a *asked){
		func(a *asked) { a.set(t, "app/a", "1") },
		func(a *asked) { a.set(t, "app/a", "2") },
		func(a *asked) { a.set(t, "app/ae", "1") },
		func(a *asked) { a.set(t, "app/b", "1") },
		func(a *asked) { a.set(t, "app/b", valued(33)) },
		func(a *asked) { a.drop(t, "app/a") },
		func(a *asked) { a.drop(t, "app/ae") },
		func(a *asked) { a.drop(t, "app/b") },
	}
	n := len(calls)
	for row := range n * n * n * n {
		a := &asked{tree.New(), plain{}}
		for range 4 {
			calls[row%n](a)
			row /= n
		}
		a.stands(t)
	}
}

// Long rows of Set and Drop, drawn by chance; behind each step the tree is held against one that is reckoned whole.
func TestP152Chance(t *testing.T) {
	r := rand.New(rand.NewSource(152))
	sets, drops := map[api.Errno]int{}, map[bool]int{}
	full := 0
	for _, x := range []struct{ paths, steps, puts int }{{3, 300, 3}, {12, 500, 3}, {40, 800, 3}, {56, 2000, 5}, {80, 2500, 8}, {2000, 600, 8}} {
		var paths []string
		for _, p := range many(x.paths) {
			paths = append(paths, p.Path)
		}
		paths = append(paths, goodPaths()[:3]...)
		a := start(t)
		for range x.steps {
			p := one(r, paths)
			if r.Intn(30) == 0 {
				p = one(r, noPaths()[:30])
			}
			if r.Intn(x.puts+2) < 2 {
				drops[a.drop(t, p)]++
			} else {
				e := a.set(t, p, valued(r.Intn(3)*r.Intn(18)))
				sets[e]++
			}
			if len(a.has) == maxKeys {
				full++
			}
			a.stands(t)
		}
		a.looks(t)
	}
	for _, e := range []api.Errno{api.OK, api.ErrKey, api.ErrLong, api.ErrFull} {
		if sets[e] < 50 {
			t.Errorf("%d came %d times", e, sets[e])
		}
	}
	if drops[true] < 300 || drops[false] < 300 || full < 300 {
		t.Errorf("dropped %d, not there %d, full %d times", drops[true], drops[false], full)
	}
}
