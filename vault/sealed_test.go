package vault_test

import (
	"strings"
	"testing"

	"twinlock/api"
	"twinlock/vault"
)

// pieces are all the pieces of so many bytes of a text.
func pieces(s string, n int) (l []string) {
	for i := range len(s) - n + 1 {
		l = append(l, s[i:i+n])
	}
	return l
}

// hides asks whether no piece of some texts is to be seen in a disk's sectors.
func hides(t *testing.T, a *asked, secrets ...string) {
	t.Helper()
	all := strings.Join(texts(a.disk), "")
	for _, s := range secrets {
		for _, p := range pieces(s, 6) {
			if strings.Contains(all, p) {
				t.Fatalf("%q of %q lies open", p, s)
			}
		}
	}
}

// On the disk all but the meta's numbers and mounts is sealed: secrets, keys and values are not to be seen, whichever call brought them.
func TestP17Sealed(t *testing.T) {
	secret, key, value := some(64, 1), some(24, 2), some(32, 3)
	a := fresh(t)
	is(t, a.set(t, vault.Meta{Role: 1, Mounts: mounts("app!"), Secret: secret}), api.OK)
	hides(t, a, secret)
	is(t, a.commit(t, batchAt(1, 1, put("app/"+key, value))), api.OK)
	hides(t, a, secret, key, value)
	is(t, a.commit(t, batchAt(2, 1, del("app/"+some(24, 4)))), api.OK)
	hides(t, a, secret, key, value, some(24, 4))
	a = a.again(t)
	is(t, a.rotate(t), api.OK)
	a.commits(t, 3*maxRows)
	hides(t, a, secret, key, value)
	is(t, a.install(t, vault.Meta{Secret: some(64, 5)}, []api.Pair{{Path: "app/" + some(24, 6), Value: some(32, 7)}}, 1, 1), api.OK)
	hides(t, a, secret, key, value, some(64, 5), some(24, 6), some(32, 7))
	for _, x := range grown(t) {
		var l []string
		for _, y := range x.told.stand().pairs {
			_, k, _ := strings.Cut(y.Path, "/")
			l = append(l, y.Value, k)
		}
		hides(t, x, append(l, x.told.meta.Secret, x.master)...)
	}
}

// Another master opens nothing of it: what is told of an error is nothing, whichever call was the last one.
func TestP17Master(t *testing.T) {
	for _, a := range grown(t) {
		for _, master := range []string{"", "Master", "master2", "maste"} {
			if v, e := vault.Open(a.disk.Twin(), master); v != nil || e == api.OK {
				t.Errorf("%q opens it: %p, %d", master, v, e)
			}
		}
	}
}
