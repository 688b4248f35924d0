package omap_test

import (
	"math/rand"
	"slices"
	"strings"
	"testing"

	"twinlock/api"
	"twinlock/omap"
)

// Of a map without paths nothing is told.
func TestP133None(t *testing.T) {
	start(t).looks(t)
	a := start(t)
	for _, p := range goodPaths() {
		a.doTo(t, api.OK, put(p, "1"))
		a.doTo(t, api.OK, del(p))
	}
	a.looks(t)
}

// Paths that are there, that are not, that are none.
func TestP133Get(t *testing.T) {
	m, e := omap.Of([]api.Pair{pair("app/a", "1"), pair("app/b", ""), pair("ops/\xff", valued(32))})
	if e != api.OK {
		t.Fatal(e)
	}
	for _, x := range []struct {
		p, v string
		ok   bool
	}{
		{"app/a", "1", true},
		{"app/b", "", true},
		{"ops/\xff", valued(32), true},
		{"ops/\xfe", "", false},
		{"app/A", "", false},
		{"app/aa", "", false},
		{"app/a ", "", false},
		{"app/", "", false},
		{"app", "", false},
		{"", "", false},
		{"/", "", false},
		{"ops/a", "", false},
		{"apps/a", "", false},
		{"app/a/", "", false},
		{"ops/\u00ff", "", false},
		{"App/a", "", false},
	} {
		if v, ok := m.Get(x.p); v != x.v || ok != x.ok {
			t.Errorf("Get(%q): %q, %v", x.p, v, ok)
		}
	}
	for _, p := range noPaths() {
		if v, ok := m.Get(p); v != "" || ok {
			t.Errorf("Get(%.99q): %q, %v", p, v, ok)
		}
	}
}

// Prefixes: empty ones, names with and without their slash, whole paths, and such as no path begins with.
func TestP133List(t *testing.T) {
	m, e := omap.Of([]api.Pair{pair("ops/a", "5"), pair("apps/a", "4"), pair("app/b", "3"), pair("app/a2", "2"), pair("app/a", "1"), pair("app/\xc3\xa4", ""), pair("app/\xc3\x28", "6"), pair("ap/x", "0")})
	if e != api.OK {
		t.Fatal(e)
	}
	all := []string{"ap/x", "app/a", "app/a2", "app/b", "app/\xc3\x28", "app/\xc3\xa4", "apps/a", "ops/a"}
	for prefix, want := range map[string][]string{
		"":              all,
		"a":             all[:7],
		"ap":            all[:7],
		"ap/":           all[:1],
		"app":           all[1:7],
		"app/":          all[1:6],
		"app/a":         all[1:3],
		"app/a2":        all[2:3],
		"app/a22":       nil,
		"app/aa":        nil,
		"app/\xc3":      all[4:6],
		"app/\xc3\x28":  all[4:5],
		"app/\xc3\xa4":  all[5:6],
		"app/\xc3\xa4x": nil,
		"app/\xa4":      nil,
		"app/\u00c3":    nil,
		"app2":          nil,
		"app2/":         nil,
		"apps":          all[6:7],
		"apps/":         all[6:7],
		"apps/a":        all[6:7],
		"o":             all[7:],
		"ops":           all[7:],
		"ops/a":         all[7:],
		"ops/aa":        nil,
		"ps/a":          nil,
		"pp/a":          nil,
		"/":             nil,
		"/a":            nil,
		"App/":          nil,
		"APP":           nil,
		"\x00":          nil,
		"\xff":          nil,
		"b":             nil,
		"z":             nil,
	} {
		if l := m.List(prefix); !slices.Equal(l, want) {
			t.Errorf("List(%q): %q, not %q", prefix, l, want)
		}
	}
	for _, prefix := range []string{letters(33), letters(34), letters(huge), "app/" + letters(huge), longest() + "x"} {
		if l := m.List(prefix); len(l) > 0 {
			t.Errorf("List(%.99q): %q", prefix, l)
		}
	}
}

// The row is bytewise: each byte that a key may have, as the first and as the last one.
func TestP133Row(t *testing.T) {
	var keys []byte
	for c := range 256 {
		if c != 0 && c != '/' {
			keys = append(keys, byte(c))
		}
	}
	for from := 0; from < len(keys); from += 24 {
		part := slices.Clone(keys[from:min(from+24, len(keys))])
		a := start(t)
		rand.New(rand.NewSource(int64(from))).Shuffle(len(part), func(i, j int) { part[i], part[j] = part[j], part[i] })
		for _, c := range part {
			a.doTo(t, api.OK, put("app/"+string([]byte{c}), "1"), put("app/a"+string([]byte{c}), "2"))
		}
		a.looks(t)
		// By bytes' numbers, not by letters, nor by runes.
		slices.Sort(part)
		i := 0
		for _, x := range a.m.All() {
			if len(x.Path) == 5 {
				if x.Path[4] != part[i] {
					t.Fatalf("the %dth path is %q, not %q", i, x.Path, part[i])
				}
				i++
			}
		}
	}
	// All of them in some maps, one of each 6.
	for by := range 6 {
		a := start(t)
		for i := by; i < len(keys); i += 6 {
			a.doTo(t, api.OK, put("app/"+string(keys[i:i+1]), valued(i%33)))
		}
		a.looks(t)
	}
}

// Names of which one begins with the other one: a slash is below each letter.
func TestP133Names(t *testing.T) {
	a := start(t)
	for _, p := range []string{"apps/a", "app/z", "app/\xff", "ap/z", "a/z", "b/a", "appsapps/a", "apz/a"} {
		a.doTo(t, api.OK, put(p, "1"))
	}
	a.looks(t)
	want := []string{"a/z", "ap/z", "app/z", "app/\xff", "apps/a", "appsapps/a", "apz/a", "b/a"}
	if l := a.m.List(""); !slices.Equal(l, want) {
		t.Errorf("List: %q", l)
	}
	// app2 is no name, for a name has letters alone.
	a.doTo(t, api.ErrKey, put("app2/a", "1"))
	a.looks(t)
}

// Lists are told anew each time, and so are the texts in them: what is written into them changes no map.
func TestP133Memory(t *testing.T) {
	for _, n := range []int{1, 5, 47, 48} {
		var l []api.Pair
		for _, x := range many(n) {
			l = append(l, pair(x.Path, "v"+strings.Clone(x.Value[:min(len(x.Value), 30)])+"w"))
		}
		a := with(t, l...)
		b, c := a.twin(t), a.filter(t, mounts("app!", "apps!", "ops!"))
		for range 3 {
			spoil(t, a.m)
			a.stands(t)
			b.stands(t)
			c.stands(t)
		}
		spoil(t, c.m)
		a.stands(t)
		c.stands(t)
		// Two answers have no memory in common, either.
		x, y := a.m.All(), a.m.All()
		p, q := a.m.List(""), a.m.List("")
		want, paths := slices.Clone(y), slices.Clone(q)
		clear(x)
		clear(p)
		if !slices.Equal(y, want) || !slices.Equal(q, paths) {
			t.Fatal("two answers have one memory")
		}
		for i := range q {
			clear(bytesOf(q[i]))
		}
		if !slices.Equal(y, a.h.all()) {
			t.Fatal("List's texts are All's")
		}
		a.looks(t)
	}
}

// spoil writes into all that a map tells, its lists' spare room too.
func spoil(t *testing.T, m *omap.Map) {
	t.Helper()
	for _, x := range m.All() {
		v, ok := m.Get(x.Path)
		if !ok {
			t.Fatalf("Get(%q)", x.Path)
		}
		clear(bytesOf(v))
		clear(bytesOf(x.Path))
		clear(bytesOf(x.Value))
	}
	for _, prefix := range []string{"", "app/"} {
		for _, p := range m.List(prefix) {
			clear(bytesOf(p))
		}
		l := m.List(prefix)
		l = l[:cap(l)]
		for i := range l {
			l[i] = "spoilt"
		}
	}
	l := m.All()
	l = l[:cap(l)]
	for i := range l {
		l[i] = sparePair
	}
}

// What is asked changes nothing: the same is told again.
func TestP133Again(t *testing.T) {
	a := with(t, many(48)...)
	for range 3 {
		for _, p := range append(goodPaths(), noPaths()...) {
			a.m.Get(p)
			a.m.List(p)
		}
		a.m.Filter(examples())
		a.m.Filter(nil)
		a.m.Twin()
		omap.Same(a.m, nil)
		a.stands(t)
	}
	a.looks(t)
}
