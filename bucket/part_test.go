package bucket_test

import (
	"math/rand"
	"slices"
	"testing"

	"twinlock/api"
	"twinlock/bucket"
)

// Of each number that is a bucket, and of others: all, some, none of the pairs are of it.
func TestP141Part(t *testing.T) {
	mixed := many(300)
	for _, i := range numbers() {
		partsTo(t, nil, nil, i)
		if l := bucket.Part([]api.Pair{}, i); len(l) > 0 {
			t.Fatalf("Part(none, %d): %q", i, l)
		}
		part := parts(t, mixed, i)
		if (len(part) > 0) != isBucket(i) || len(part) == len(mixed) {
			t.Fatalf("%d of %d pairs are of the bucket %d", len(part), len(mixed), i)
		}
		parts(t, many(3), i)
		parts(t, many(5000), i)
	}
	for i := range buckets {
		for _, n := range []int{1, 2, 47, 48, 49, 100} {
			l := inOne(i, n)
			for _, j := range numbers() {
				if j == i {
					partsTo(t, l, l, j)
				} else {
					partsTo(t, nil, l, j)
				}
			}
		}
	}
}

// Among pairs of a bucket one of another one, and the other way round, at each place.
func TestP141PartOne(t *testing.T) {
	for _, n := range []int{1, 2, 20} {
		for i := range buckets {
			other := (i + 7) % buckets
			x := inOne(other, 1)[0]
			own := inOne(i, n)
			for at := range n + 1 {
				l := slices.Insert(slices.Clone(own), at, x)
				partsTo(t, own, l, i)
				partsTo(t, []api.Pair{x}, l, other)
				partsTo(t, nil, l, (i+3)%buckets)
			}
		}
	}
}

// The row is kept, whichever it is: Part asks nothing of the pairs but their paths' buckets.
func TestP141PartRow(t *testing.T) {
	l := many(200)
	for seed := range int64(20) {
		for i := range buckets {
			parts(t, l, i)
		}
		rand.New(rand.NewSource(seed)).Shuffle(len(l), func(i, j int) { l[i], l[j] = l[j], l[i] })
	}
	slices.Reverse(l)
	for i := range buckets {
		parts(t, l, i)
	}
}

// Pairs that may not be: the same twice, paths that are none, values that are too long. By its text each is in a bucket.
func TestP141PartWrong(t *testing.T) {
	var l []api.Pair
	for i, p := range append(noPaths(), goodPaths()...) {
		l = append(l, pair(p, valued(i*3)), pair(p, ""), pair("app/same", "1"))
	}
	l = append(l, pair("app/a", valued(huge)), pair("", valued(33)), pair("app/same", "2"))
	slices.Reverse(l)
	for _, i := range numbers() {
		parts(t, l, i)
	}
	for _, x := range l {
		for _, i := range numbers() {
			var want []api.Pair
			if i == bucketOf(x.Path) {
				want = []api.Pair{x, x}
			}
			partsTo(t, want, []api.Pair{x, x}, i)
		}
	}
	// It hangs on the path, not on the value.
	for n := range 200 {
		x := pair("app/a", valued(n))
		partsTo(t, []api.Pair{x}, []api.Pair{x}, 3)
	}
}

func TestP141PartAll(t *testing.T) {
	allLists(4, append(somePairs(), pair("app/c", "3"), pair("app/5", "")), func(l []api.Pair) {
		for i := range buckets {
			parts(t, l, i)
		}
	})
}

// Of many pairs, some thousand in one bucket.
func TestP141PartHuge(t *testing.T) {
	l := many(huge)
	for i := range buckets {
		if n := len(parts(t, l, i)); n < 1000 {
			t.Errorf("%d pairs of the bucket %d", n, i)
		}
	}
}

// What is told is its own: what is written into it changes nothing, nor does what becomes of what was handed in.
func TestP144Part(t *testing.T) {
	b := []byte("app/a12345app/ae6789\xffz")
	l := []api.Pair{{Path: textOn(b[:5]), Value: textOn(b[5:10])}, {Path: textOn(b[10:16]), Value: textOn(b[16:])}}
	want := []api.Pair{pair("app/a", "12345"), pair("app/ae", "6789\xffz")}
	part := bucket.Part(l, 3)
	if !slices.Equal(part, want) {
		t.Fatalf("Part: %q", part)
	}
	// Even of a text that changes there is nothing left in the answer.
	clear(b)
	clear(l)
	if !slices.Equal(part, want) {
		t.Errorf("Part's memory is the argument's: %q", part)
	}
	for i := range buckets {
		l := inOne(i, 20)
		want := slices.Clone(l)
		part := bucket.Part(l, i)
		spoil(part)
		if !slices.Equal(l, want) {
			t.Fatal("what was written into the answer is in the argument")
		}
		// Nor do the parts of one list have one memory.
		first, second := bucket.Part(l, i), bucket.Part(l, i)
		first = append(first, spare)
		spoil(first)
		if !slices.Equal(second, want) {
			t.Fatal("two answers have one memory")
		}
	}
}
