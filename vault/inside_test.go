package vault

import (
	"math/rand"
	"strconv"
	"strings"
	"testing"

	"twinlock/api"
	"twinlock/disk"
	"twinlock/kept"
	"twinlock/log"
	"twinlock/pack"
	"twinlock/parts"
	"twinlock/seal"
)

// halves are the head's open bytes, and its sealed ones.
func halves(t *testing.T, v *Vault) (open, sealed string) {
	t.Helper()
	text, is := v.head.Get()
	if !is {
		return "", ""
	}
	in := pack.Of(text)
	open, sealed = in.Text(api.MaxKept), in.Text(api.MaxKept)
	if e := in.End(); e != api.OK {
		t.Fatalf("the head can't be read: %d", e)
	}
	return open, sealed
}

// wrapped is all that stands sealed on a vault's disk and counts.
func wrapped(t *testing.T, v *Vault) []string {
	t.Helper()
	bodies, e := parts.Read(v.disk, bootAt, 1)
	if e != api.OK {
		t.Fatal(e)
	}
	boot, is := parts.Text(bodies, 0, api.Sector)
	if !is {
		t.Fatal("no boot")
	}
	l := append(v.log.Records(), boot)
	if _, sealed := halves(t, v); sealed != "" {
		l = append(l, sealed)
	}
	if v.lot.number != firstLot {
		side, e := log.Open(v.disk, v.lot.from(), sideSize, v.lot.number)
		if e != api.OK {
			t.Fatal(e)
		}
		l = append(l, strings.Join(side.Records(), ""))
	}
	return l
}

// opened is the vault on a disk.
func opened(t *testing.T, d *disk.Disk) *Vault {
	t.Helper()
	v, e := Open(d, "master")
	if e != api.OK {
		t.Fatalf("Open is answered %d", e)
	}
	return v
}

// asks asks a vault a call by chance; the power may go in it.
func asks(v *Vault, r *rand.Rand) api.Errno {
	at, epoch := v.Place()
	switch r.Intn(12) {
	case 0:
		return v.Rotate()
	case 1:
		return v.Set(Meta{Role: r.Intn(4), Secret: strconv.Itoa(r.Int())})
	case 2:
		return v.Install(Meta{Seen: r.Intn(9)}, []api.Pair{{Path: "app/b", Value: strconv.Itoa(r.Intn(99))}}, r.Intn(9)+1, 1)
	}
	return v.Commit(api.Batch{Index: at + 1, Epoch: max(epoch, 1), Ops: []api.Op{{Kind: api.Put, Path: "app/a", Value: strconv.Itoa(r.Intn(1000))}}})
}

// Of all that one master's keys sealed for a vault no two have the same Boot and N, across calls that were broken off, and Opens.
func TestNonces(t *testing.T) {
	type nonce struct {
		boot uint32
		n    uint64
	}
	for seed := range int64(20) {
		r := rand.New(rand.NewSource(seed))
		d, _ := disk.New(Sectors)
		v := opened(t, d)
		seen := map[nonce]string{}
		for range 150 {
			if r.Intn(5) == 0 {
				d.Fuse(r.Intn(12))
			}
			if e := asks(v, r); e == api.ErrDown {
				keep := make([]int, d.Waits())
				for i := range keep {
					keep[i] = r.Intn(2)
				}
				d.Crash(keep)
				d.Fuse(r.Intn(4))
				if w, e := Open(d, "master"); e == api.OK {
					v = w
				} else {
					d.Crash([]int{r.Intn(2)})
					v = opened(t, d)
				}
			} else if e != api.OK {
				t.Fatal(e)
			}
			d.Fuse(-1)
			if r.Intn(20) == 0 {
				v = opened(t, d)
			}
			for _, b := range wrapped(t, v) {
				x, e := seal.Read(b)
				if e != api.OK {
					t.Fatalf("what is sealed can't be read: %d", e)
				}
				n := nonce{x.Boot, x.N}
				if was, is := seen[n]; is && was != b {
					t.Fatalf("the nonce %v came twice", n)
				}
				seen[n] = b
			}
		}
	}
}

// The head's numbers and mounts lie open, but whoever changes them is found out: they are tagged with what is sealed.
func TestOpenTagged(t *testing.T) {
	d, _ := disk.New(Sectors)
	v := opened(t, d)
	for _, m := range []Meta{{Role: 1, Seen: 5, Grant: 5, Mounts: []api.Mount{{Name: "app", Ship: true}, {Name: "ops"}}, Secret: "seed"}, {Role: 3, Seen: 300}} {
		if e := v.Set(m); e != api.OK {
			t.Fatal(e)
		}
		open, sealed := halves(t, v)
		for i := range len(open) {
			x := d.Twin()
			b := []byte(open)
			b[i] ^= 1
			var o pack.Out
			o.Text(string(b))
			o.Text(sealed)
			k, _ := kept.Open(x, headAt)
			if e := k.Put(o.String()); e != api.OK {
				t.Fatal(e)
			}
			if w, e := Open(x, "master"); w != nil || e != api.ErrMac {
				t.Fatalf("its byte %d was changed, and Open is answered %p, %d", i, w, e)
			}
		}
	}
}

// What is sealed for one place of the disk is not taken for another one's.
func TestAbout(t *testing.T) {
	d, _ := disk.New(Sectors)
	v := opened(t, d)
	for _, e := range []api.Errno{
		v.Install(Meta{}, []api.Pair{{Path: "app/a", Value: "1"}}, 1, 1),
		v.Commit(api.Batch{Index: 2, Epoch: 1}),
	} {
		if e != api.OK {
			t.Fatal(e)
		}
	}
	l := wrapped(t, v)
	for i, b := range l {
		for k, about := range []string{aboutRow, aboutBoot, aboutHead + metaBytes(v.meta), aboutMap} {
			if s, e := v.ring.Open(b, about); (e == api.OK) != (i == k) {
				t.Errorf("the %dth, about %q, is opened to %q, %d", i, about, s, e)
			}
		}
	}
}

// The parts of the disk stand side by side, and have room for what is greatest: 24 batches, and 48 pairs.
func TestRoom(t *testing.T) {
	if bootAt != kept.Sectors || rowsAt <= bootAt || sidesAt != rowsAt+rowsSize || sidesAt+2*sideSize > Sectors {
		t.Fatal("the parts lie one over the other")
	}
	// The greatest number of a key, a boot and a count, the length of the data, and the tag.
	const more = 3 + 5 + 9 + 2 + 32
	op := len("k") + 1 + maxPath + 1 + api.MaxValue
	if n := log.Parts(strings.Repeat("x", 9+9+1+api.MaxOps*op+more)); n*MaxRows > rowsSize {
		t.Errorf("the rows take %d sectors", n*MaxRows)
	}
	n, sectors := 1+api.MaxKeys*(1+maxPath+1+api.MaxValue)+more, 0
	for ; n > 0; n -= api.MaxRecord {
		sectors += log.Parts(strings.Repeat("x", min(n, api.MaxRecord)))
	}
	if sectors > sideSize {
		t.Errorf("a map takes %d sectors", sectors)
	}
	// The head: open are the role, two numbers and the mounts; sealed are the secret, three places' numbers, the key and the side.
	head := 2 + (1 + 9 + 9 + 1 + api.MaxMounts*(1+api.MaxMount+1)) + 2 + (1 + maxSecret + 9 + 9 + 3 + 10 + 1) + more
	if head > api.MaxKept {
		t.Errorf("the head has %d bytes", head)
	}
	if boot := 5 + more; len(parts.Bodies(strings.Repeat("x", boot))) != 1 {
		t.Errorf("the boot has %d bytes", boot)
	}
}
