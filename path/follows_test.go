package path_test

import (
	"math/rand"
	"slices"
	"testing"

	"twinlock/api"
	"twinlock/path"
)

// All texts of up to six bytes of few, and all of up to two bytes at all.
func TestP114Short(t *testing.T) {
	for _, p := range short(6, "az/A\x00\xff") {
		cuts(t, p)
	}
	for a := range 256 {
		for b := range 256 {
			cuts(t, string([]byte{byte(a), byte(b)}))
			cuts(t, string([]byte{byte(a), '/', byte(b)}))
			cuts(t, string([]byte{'a', byte(a), byte(b)}))
			cuts(t, string([]byte{byte(a), byte(b), '/', 'a'}))
			cuts(t, string([]byte{'a', '/', byte(a), byte(b)}))
			joins(t, string([]byte{byte(a)}), string([]byte{byte(b)}))
		}
		cuts(t, string([]byte{byte(a)}))
	}
}

// All texts of three bytes: those are paths that have a slash in the middle, a letter ahead of it, and a key behind.
func TestP114Three(t *testing.T) {
	if testing.Short() {
		t.Skip("very many texts")
	}
	p := make([]byte, 3)
	paths := 0
	for n := range 1 << 24 {
		p[0], p[1], p[2] = byte(n), byte(n>>8), byte(n>>16)
		m, k, ok := path.Cut(string(p))
		if ok != (p[1] == '/' && p[0] >= 'a' && p[0] <= 'z' && p[2] != 0 && p[2] != '/') {
			t.Fatalf("Cut(%q): %v", p, ok)
		}
		if !ok && m+k != "" || ok && (m != string(p[:1]) || k != string(p[2:])) {
			t.Fatalf("Cut(%q): %q, %q, %v", p, m, k, ok)
		}
		if ok {
			paths++
		}
	}
	if paths != 26*254 {
		t.Errorf("%d paths", paths)
	}
}

// Join of all pairs of short texts, and Cut of what it tells.
func TestP114Pairs(t *testing.T) {
	all := short(3, "az/A\x00\xff")
	told := map[string][2]string{}
	for _, m := range all {
		for _, k := range all {
			joins(t, m, k)
			s, ok := path.Join(m, k)
			if !ok {
				continue
			}
			if was, is := told[s]; is {
				t.Fatalf("%q is of %q, and of %q and %q", s, was, m, k)
			}
			told[s] = [2]string{m, k}
		}
	}
	// Of all short texts, just those are paths that Join tells.
	for _, p := range short(4, "az/A\x00\xff") {
		_, _, ok := path.Cut(p)
		if _, is := told[p]; ok != is {
			t.Errorf("Cut(%q): %v", p, ok)
		}
	}
}

// A path has at most 33 bytes: of a longer text nothing is one, wherever its slash is.
func TestP114Longest(t *testing.T) {
	if maxMount+1+maxKey != maxPath || api.MaxMount != maxMount || api.MaxKey != maxKey || api.MaxMounts != maxMounts {
		t.Fatal("the limits")
	}
	for n := range 3 * maxPath {
		longest := 0
		for at := range n {
			p := letters(at) + "/" + keyed(n-at-1)
			if _, _, ok := path.Cut(p); ok {
				longest = n
			}
			cuts(t, p)
		}
		if n >= 3 && n <= 33 && longest != n {
			t.Errorf("no text of %d bytes is a path", n)
		}
		if (n < 3 || n > 33) && longest != 0 {
			t.Errorf("a text of %d bytes is a path", n)
		}
	}
	p := letters(maxMount) + "/" + keyed(maxKey)
	cutsTo(t, p, letters(maxMount), keyed(maxKey), true)
	for c := range 256 {
		more := string([]byte{byte(c)})
		for _, s := range []string{p + more, more + p, p[:8] + more + p[8:], p[:9] + more + p[9:]} {
			cutsTo(t, s, "", "", false)
			findsTo(t, mounts(letters(maxMount)+"!"), s, api.Mount{}, api.ErrKey)
		}
	}
}

// sideBySide asks whether the paths of each mount stand side by side, when all are sorted, and in the row of the names.
func sideBySide(t *testing.T, paths []string) {
	t.Helper()
	l := slices.Clone(paths)
	slices.Sort(l)
	var row []string
	for _, p := range l {
		m, _, ok := path.Cut(p)
		if !ok {
			t.Fatalf("Cut(%q)", p)
		}
		if len(row) > 0 && row[len(row)-1] == m {
			continue
		}
		if slices.Contains(row, m) {
			t.Fatalf("paths of %q stand apart, the second time at %q", m, p)
		}
		row = append(row, m)
	}
	if !slices.IsSorted(row) {
		t.Fatalf("the mounts stand in the row %q", row)
	}
}

// allOf are the paths that there are of such names and keys.
func allOf(names, keys []string) []string {
	var l []string
	for _, n := range names {
		for _, k := range keys {
			if p, ok := path.Join(n, k); ok {
				l = append(l, p)
			}
		}
	}
	return l
}

// Names that begin alike, also what would be one if a byte below / could be in it, and keys that begin and end a row.
func TestP114Sorted(t *testing.T) {
	names := []string{"a", "aa", "ab", "az", "app", "appl", "apple", "apples", "applesau", "apps", "b", "ba", "z", "zz", "zzzzzzzz", "a-", "a.", "a b", "a\x01", "app-", "app.b", "app!", "app0", "A", "App", "app/", "app/a", "\xff", "a\xff", "a{", "a`"}
	keys := []string{"\x01", "\x01\x01", " ", "-", ".", ".a", "0", "A", "a", "aa", "app", "z", "zz", "{", "\x7f", "\x80", "\xff", "\xff\xff", keyed(maxKey), "/", "a/b", "\x00", "a\x00"}
	l := allOf(names, keys)
	if len(l) != 15*19 {
		t.Errorf("%d paths", len(l))
	}
	sideBySide(t, l)
}

// All names of up to two bytes, and one byte ahead of and behind a letter's.
func TestP114SortedBytes(t *testing.T) {
	var names []string
	for c := range 256 {
		b := string([]byte{byte(c)})
		names = append(names, b, "a"+b, b+"a", "ab"+b)
	}
	slices.Sort(names)
	names = slices.Compact(names)
	l := allOf(names, []string{"\x01", ".", "0", "\xff"})
	if len(l)%4 != 0 || len(l) == 0 {
		t.Errorf("%d paths", len(l))
	}
	sideBySide(t, l)
}

func TestP114SortedChance(t *testing.T) {
	r := rand.New(rand.NewSource(114))
	for range 300 {
		var names, keys []string
		for range 1 + r.Intn(12) {
			names = append(names, some(r, 1+r.Intn(4), "ab"), some(r, 1+r.Intn(8), "az-./0"))
			keys = append(keys, some(r, 1+r.Intn(5), "a.\x01\xff0-"))
		}
		slices.Sort(names)
		sideBySide(t, allOf(slices.Compact(names), keys))
	}
}
