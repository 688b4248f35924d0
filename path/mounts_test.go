package path_test

import (
	"math/rand"
	"slices"
	"testing"

	"twinlock/api"
	"twinlock/path"
)

// examples is the list L of the chapter's examples.
func examples() []api.Mount {
	return []api.Mount{{Name: "app", Ship: true}, {Name: "ops"}}
}

func TestP112Examples(t *testing.T) {
	for _, x := range []struct {
		l    []api.Mount
		want bool
	}{{examples(), true}, {nil, false}, {mounts("app", "app"), false}} {
		if got := path.Right(x.l); got != x.want {
			t.Errorf("Right(%q): %v", show(x.l), got)
		}
	}
}

// Lists of none, of one, of as many as there may be, of more.
func TestP112Many(t *testing.T) {
	all := mounts("a", "b!", "app", "ops!", "zz", "q")
	for n := range len(all) + 1 {
		rights(t, all[:n])
		if got := path.Right(all[:n]); got != (n >= 1 && n <= 4) {
			t.Errorf("Right of %d: %v", n, got)
		}
	}
	if path.Right(nil) || path.Right([]api.Mount{}) {
		t.Error("none are right")
	}
	long := make([]api.Mount, 5000)
	for i := range long {
		long[i].Name = string([]byte{byte('a' + i/676), byte('a' + i/26%26), byte('a' + i%26)})
	}
	rights(t, long)
}

// A name twice, at each two places of lists of each length, shipped or not: side by side and apart.
func TestP112Twice(t *testing.T) {
	for n := 2; n <= 5; n++ {
		for i := range n {
			for j := range i {
				for ships := range 1 << 2 {
					l := slices.Clone(mounts("a", "b!", "app", "ops!", "zz")[:n])
					l[i] = api.Mount{Name: "same", Ship: ships&1 > 0}
					l[j] = api.Mount{Name: "same", Ship: ships&2 > 0}
					rights(t, l)
					if path.Right(l) {
						t.Errorf("Right(%q)", show(l))
					}
					l[j].Name = "sama"
					rights(t, l)
					if path.Right(l) != (n <= 4) {
						t.Errorf("Right(%q): %v", show(l), n > 4)
					}
				}
			}
		}
	}
}

// Names of which one is another one's beginning are unlike.
func TestP112Beginnings(t *testing.T) {
	for _, l := range [][]api.Mount{mounts("a", "aa", "aaa", "aaaa"), mounts("aaaaaaaa", "aaaaaaa", "a"), mounts("app", "apps"), mounts("ab", "ba")} {
		if !path.Right(l) {
			t.Errorf("Right(%q)", show(l))
		}
	}
}

// Each name, or what is nearly one, first, in the middle, last, and alone.
func TestP112Names(t *testing.T) {
	for _, name := range names() {
		ok := isName.MatchString(runes(name))
		for _, ship := range []bool{false, true} {
			m := api.Mount{Name: name, Ship: ship}
			for i := range 3 {
				// Without a name that is the same as any of those.
				l := slices.Insert(mounts("yyyyyyyx", "yyyyyyyy!"), i, m)
				rights(t, l)
				if path.Right(l) != ok {
					t.Fatalf("Right(%.99q): %v", show(l), !ok)
				}
			}
			if path.Right([]api.Mount{m}) != ok {
				t.Fatalf("Right(%.99q): %v", name, !ok)
			}
		}
	}
}

// Whether a mount is shipped is nothing to Right.
func TestP112Ships(t *testing.T) {
	for ships := range 1 << 4 {
		l := mounts("a", "b", "app", "ops")
		for i := range l {
			l[i].Ship = ships>>i&1 > 0
		}
		if !path.Right(l) {
			t.Errorf("Right(%q)", show(l))
		}
	}
}

// lists are all lists of up to n mounts out of some.
func lists(n int, some []api.Mount) [][]api.Mount {
	all := [][]api.Mount{nil}
	last := all
	for range n {
		var next [][]api.Mount
		for _, l := range last {
			for _, m := range some {
				next = append(next, append(slices.Clone(l), m))
			}
		}
		all, last = append(all, next...), next
	}
	return all
}

// All lists of up to five mounts out of six, right ones and wrong ones.
func TestP112All(t *testing.T) {
	for _, l := range lists(5, mounts("a", "a!", "ab", "b!", "", "ninechars")) {
		rights(t, l)
	}
	for _, l := range lists(5, mounts("a", "b", "c!", "d!", "e")) {
		rights(t, l)
	}
}

// All pairs of lists of up to three mounts: only those are the same that have the same ones in the same row.
func TestP112Same(t *testing.T) {
	all := lists(3, mounts("a", "a!", "b", "B!", "ab"))
	for i, a := range all {
		for j, b := range all {
			sames(t, a, b)
			if path.Same(a, b) != (i == j) {
				t.Fatalf("Same(%q, %q): %v", show(a), show(b), i != j)
			}
		}
	}
}

// None and none are the same, whatever kind of none; none and some are not.
func TestP112SameNone(t *testing.T) {
	for _, a := range [][]api.Mount{nil, {}} {
		for _, b := range [][]api.Mount{nil, {}} {
			if !path.Same(a, b) {
				t.Error("none and none")
			}
		}
		for _, b := range [][]api.Mount{mounts(""), mounts("a"), mounts("!"), {{}, {}}, examples()} {
			if path.Same(a, b) || path.Same(b, a) {
				t.Errorf("none and %q", show(b))
			}
		}
	}
}

// Lists of each length up to six that differ in one thing, at each place.
func TestP112SameBut(t *testing.T) {
	all := mounts("a", "b!", "app", "ops!", "zz", "q!")
	for n := range len(all) + 1 {
		l := all[:n]
		sames(t, l, slices.Clone(l))
		if !path.Same(l, slices.Clone(l)) || !path.Same(l, l) {
			t.Errorf("Same of %q", show(l))
		}
		var others [][]api.Mount
		for i := range n {
			for _, name := range []string{"", "x", all[i].Name + "x", all[i].Name + "\x00", "A", "\xff", letters(huge)} {
				c := slices.Clone(l)
				c[i].Name = name
				others = append(others, c)
			}
			c := slices.Clone(l)
			c[i].Ship = !c[i].Ship
			others = append(others, c, slices.Delete(slices.Clone(l), i, i+1), slices.Insert(slices.Clone(l), i, l[i]))
			// Two of them the other way round.
			for j := range i {
				c := slices.Clone(l)
				c[i], c[j] = c[j], c[i]
				others = append(others, c)
			}
		}
		for _, o := range others {
			sames(t, l, o)
			if path.Same(l, o) || path.Same(o, l) {
				t.Errorf("Same(%.99q, %.99q)", show(l), show(o))
			}
		}
	}
}

// Lists that are not right are the same as themselves.
func TestP112SameWrong(t *testing.T) {
	for _, l := range [][]api.Mount{mounts(""), mounts("a", "a"), mounts("A", "\x00", "a/b"), mounts("ninechars"), mounts("a", "b", "c", "d", "e"), mounts(letters(huge), letters(huge))} {
		if path.Right(l) {
			t.Errorf("Right(%.99q)", show(l))
		}
		if !path.Same(l, slices.Clone(l)) {
			t.Errorf("Same(%.99q, itself)", show(l))
		}
		sames(t, l, l[1:])
	}
}

func TestP113Examples(t *testing.T) {
	app := api.Mount{Name: "app", Ship: true}
	findsTo(t, examples(), "app/db", app, api.OK)
	findsTo(t, examples(), "web/x", api.Mount{}, api.ErrMount)
	findsTo(t, examples(), "app", api.Mount{}, api.ErrKey)
	findsTo(t, examples(), "ops/k", api.Mount{Name: "ops"}, api.OK)
	if !path.Ships(examples(), "app/db") || path.Ships(examples(), "ops/k") {
		t.Error("Ships")
	}
}

// What is no path is ErrKey, whatever the mounts are: none, wrong ones, those of its name.
func TestP113NoPath(t *testing.T) {
	for _, p := range []string{"", "/", "app", "app/", "/db", "app//", "app/a/b", "App/x", "app/\x00", "app/a\x00", "ninechars/x", "app/" + letters(maxKey+1), "app/" + letters(huge), letters(huge), letters(huge) + "/x", "\xff/x", "a b/x"} {
		name, _, _ := cutAtSlash(p)
		for _, l := range [][]api.Mount{nil, {}, examples(), mounts("app!", "app!"), {{Name: name, Ship: true}}, {{Name: p, Ship: true}}, mounts("", "!"), mounts("a", "b", "c", "d", "app!")} {
			findsTo(t, l, p, api.Mount{}, api.ErrKey)
		}
	}
}

// cutAtSlash is what stands ahead of a text's first slash, and behind it.
func cutAtSlash(p string) (ahead, behind string, is bool) {
	for i := range len(p) {
		if p[i] == '/' {
			return p[:i], p[i+1:], true
		}
	}
	return p, "", false
}

// A path of none of the mounts is ErrMount, so is one of none.
func TestP113NoMount(t *testing.T) {
	for _, l := range [][]api.Mount{nil, {}, mounts("ap"), mounts("apps!"), mounts("ops", "web!"), mounts("App!", "app/!", "app/x!", "", "app\x00!", "app "), mounts("a", "b", "c", "d", "e!"), {{Name: "x", Ship: true}}} {
		findsTo(t, l, "app/x", api.Mount{}, api.ErrMount)
		findsTo(t, l, "app/"+keyed(maxKey), api.Mount{}, api.ErrMount)
	}
}

// The mount stands at each place of lists of each length, up to more than there may be.
func TestP113Places(t *testing.T) {
	for n := 1; n <= 7; n++ {
		for i := range n {
			for _, ship := range []bool{false, true} {
				l := slices.Clone(mounts("a", "b!", "c", "d!", "e", "f!", "g")[:n])
				l[i] = api.Mount{Name: "app", Ship: ship}
				findsTo(t, l, "app/x", l[i], api.OK)
				findsTo(t, l, "ap/x", api.Mount{}, api.ErrMount)
				findsTo(t, l, "apps/x", api.Mount{}, api.ErrMount)
			}
		}
	}
}

// Of mounts of one name the first one counts, side by side and apart.
func TestP113First(t *testing.T) {
	for n := 2; n <= 6; n++ {
		for i := range n {
			for j := range i {
				for _, first := range []bool{false, true} {
					l := slices.Clone(mounts("a", "b!", "c", "d!", "e", "f!")[:n])
					l[j], l[i] = api.Mount{Name: "app", Ship: first}, api.Mount{Name: "app", Ship: !first}
					findsTo(t, l, "app/x", l[j], api.OK)
				}
			}
		}
	}
}

// Wrong names in a list are no path's, and do no harm, wherever they are.
func TestP113WrongNames(t *testing.T) {
	for _, name := range names() {
		for i := range 3 {
			l := slices.Insert(mounts("app!", "ops"), i, api.Mount{Name: name, Ship: true})
			finds(t, l, "app/x")
			finds(t, l, "ops/x")
			finds(t, l, "web/x")
			finds(t, l, name+"/x")
			if !isName.MatchString(runes(name)) {
				findsTo(t, l, name+"/x", api.Mount{}, api.ErrKey)
			}
		}
		// Alone, shipped or not.
		for _, ship := range []bool{false, true} {
			finds(t, []api.Mount{{Name: name, Ship: ship}}, name+"/x")
		}
	}
}

// The key is nothing to Of, if it is one.
func TestP113Keys(t *testing.T) {
	for _, k := range keys() {
		for _, l := range [][]api.Mount{examples(), mounts("app", "ops!"), mounts("web"), nil} {
			finds(t, l, "app/"+k)
			finds(t, l, "ops/"+k)
		}
	}
}

// All lists of up to four mounts out of six, and paths of each of their names.
func TestP113All(t *testing.T) {
	paths := []string{"a/x", "ab/x", "b/a", "A/x", "/x", "", "a", "c/x", "ab/ab/ab", "ninechars/x"}
	for _, l := range lists(4, mounts("a", "a!", "ab", "ab!", "b!", "", "A", "ninechars!")) {
		for _, p := range paths {
			finds(t, l, p)
		}
	}
}

func TestP113Chance(t *testing.T) {
	r := rand.New(rand.NewSource(113))
	for range 100_000 {
		l := make([]api.Mount, r.Intn(7))
		for i := range l {
			l[i] = api.Mount{Name: some(r, r.Intn(3), "aab/"), Ship: r.Intn(2) > 0}
		}
		other := slices.Clone(l)
		if len(l) > 0 && r.Intn(2) > 0 {
			other[r.Intn(len(l))].Name = some(r, r.Intn(3), "aab/")
		}
		finds(t, l, some(r, r.Intn(3), "ab")+"/"+some(r, r.Intn(3), "ab/"))
		rights(t, l)
		sames(t, l, other)
	}
}

// A long list is gone through to its end.
func TestP113Long(t *testing.T) {
	l := make([]api.Mount, huge)
	for i := range l {
		l[i].Name = "other"
	}
	findsTo(t, l, "app/x", api.Mount{}, api.ErrMount)
	l = append(l, api.Mount{Name: "app", Ship: true})
	findsTo(t, l, "app/x", api.Mount{Name: "app", Ship: true}, api.OK)
}

// What Of tells is its own, whatever becomes of the bytes of the list's names and of the path.
func TestP113Memory(t *testing.T) {
	name, p := []byte("app"), []byte("app/x")
	l := []api.Mount{{Name: textOn(name), Ship: true}}
	m, e := path.Of(l, textOn(p))
	clear(name)
	clear(p)
	if m != (api.Mount{Name: "app", Ship: true}) || e != api.OK {
		t.Error(m, e)
	}
}

// A list that is changed behind a call is another list to the next one: none is kept.
func TestP113NotKept(t *testing.T) {
	l := examples()
	m, e := path.Of(l, "app/x")
	l[0] = api.Mount{Name: "web"}
	if m != (api.Mount{Name: "app", Ship: true}) || e != api.OK {
		t.Error(m, e)
	}
	finds(t, l, "app/x")
	finds(t, l, "web/x")
	rights(t, l)
	l[1].Name = "web"
	rights(t, l)
	finds(t, l, "web/x")
	sames(t, l, examples())
	l = examples()
	finds(t, l, "app/x")
	sames(t, l, examples())
}

// Asking leaves lists as they are, one that is handed in twice, too.
func TestP113Stay(t *testing.T) {
	for _, l := range lists(5, mounts("a!", "b", "", "A!")) {
		own, room := roomy(l)
		path.Right(own)
		path.Same(own, own)
		path.Same(own, room)
		path.Of(own, "a/x")
		path.Of(own, "c/x")
		path.Of(own, "")
		path.Ships(own, "b/x")
		if !slices.Equal(room, append(slices.Clone(l), spare, spare)) {
			t.Fatalf("%q became %q", show(l), show(room))
		}
		// What is behind the list is none of it.
		findsTo(t, own, spare.Name+"/x", api.Mount{}, api.ErrMount)
	}
}
