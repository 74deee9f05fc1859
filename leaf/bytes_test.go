package leaf_test

import (
	"strings"
	"testing"

	"engrosser/api"
	"engrosser/leaf"
	"engrosser/sample"
)

// known are entries whose bytes are known: what Merkle answers, and what stands in Tile behind the common part.
func known() []struct {
	e              api.Entry
	merkle, behind string
} {
	key, print, other := strings.Repeat("k", 32), strings.Repeat("p", 32), strings.Repeat("q", 32)
	long := sample.Text(api.MaxBody, 1)
	return []struct {
		e              api.Entry
		merkle, behind string
	}{
		{api.Entry{Body: "x", Time: 1, Index: 2}, "\x00\x00\x00\x00\x00\x00\x00\x00\x00\x01\x00\x00\x00\x00\x01x\x00\x08\x00\x00\x05\x00\x00\x00\x00\x02", "\x00\x00"},
		{api.Entry{Body: "\x00", Chain: []string{print}}, strings.Repeat("\x00", 14) + "\x01\x00\x00\x08\x00\x00\x05\x00\x00\x00\x00\x00", "\x00\x20" + print},
		{api.Entry{Pre: true, Body: "yz", Key: key, Full: "f", Time: 0x010203040506, Index: 0x0a0b0c0d}, "\x00\x00\x00\x00\x01\x02\x03\x04\x05\x06\x00\x01" + key + "\x00\x00\x02yz\x00\x08\x00\x00\x05\x00\x0a\x0b\x0c\x0d", "\x00\x00\x01f\x00\x00"},
		{api.Entry{Pre: true, Body: long, Key: key, Full: long[:700], Chain: []string{print, other, print, key}, Time: api.MaxTime, Index: api.MaxSize - 1}, "\x00\x00\x00\x00\xff\xff\xff\xff\xff\xff\x00\x01" + key + "\x00\x07\xd0" + long + "\x00\x08\x00\x00\x05\x00\x3f\xff\xff\xff", "\x00\x02\xbc" + long[:700] + "\x00\x80" + print + other + print + key},
		{api.Entry{Body: long[:256], Chain: []string{other, print}}, strings.Repeat("\x00", 13) + "\x01\x00" + long[:256] + "\x00\x08\x00\x00\x05\x00\x00\x00\x00\x00", "\x00\x40" + other + print},
	}
}

// P15.2: bytes that are known, the chapter's example among them.
func TestKnown(t *testing.T) {
	for _, c := range known() {
		if got, err := leaf.Merkle(c.e); got != c.merkle || err != api.OK {
			t.Errorf("Merkle of %s: got %s, %d", shown(c.e), short(got), err)
		}
		if got, err := leaf.Tile(c.e); got != c.merkle[2:]+c.behind || err != api.OK {
			t.Errorf("Tile of %s: got %s, %d", shown(c.e), short(got), err)
		}
		if got, err := leaf.Hash(c.e); got != sumOf("\x00"+c.merkle) || err != api.OK {
			t.Errorf("Hash of %s: got %s, %d", shown(c.e), short(got), err)
		}
		checkTake(t, c.merkle[2:]+c.behind+"more", c.e, "more", api.OK)
		checkRight(t, c.e)
	}
}

// P15.2: names that are known.
func TestNamesKnown(t *testing.T) {
	key := strings.Repeat("k", 32)
	for _, c := range []struct {
		e api.Entry
		s string
	}{
		{api.Entry{Body: "x"}, "\x00x"}, {api.Entry{Body: "\x01x", Time: 5, Index: 9, Chain: prints(4, 1)}, "\x00\x01x"},
		{api.Entry{Pre: true, Body: "x", Key: key, Full: "f"}, "\x01" + key + "x"},
	} {
		if got, err := leaf.Name(c.e); got != sumOf(c.s)[:16] || err != api.OK {
			t.Errorf("Name of %s: got %s, %d", shown(c.e), short(got), err)
		}
	}
}

// P15.2: a name hangs on what is certified alone, not on when it came and where it stands, nor on the chain.
func TestNames(t *testing.T) {
	for _, e := range both() {
		name, _ := leaf.Name(e)
		for seed := range 100 {
			other := someEntry(seed)
			same := e
			same.Time, same.Index, same.Chain = other.Time, other.Index, other.Chain
			if e.Pre {
				same.Full = other.Body
			}
			if got, err := leaf.Name(same); got != name || err != api.OK {
				t.Errorf("%s: got %s, %d, not %s", shown(same), short(got), err, short(name))
			}
			if got, err := leaf.Name(other); got == name || len(got) != 16 || err != api.OK {
				t.Errorf("%s: got %s, %d", shown(other), short(got), err)
			}
		}
		other := e
		other.Body += "\x00"
		if got, _ := leaf.Name(other); got == name {
			t.Error("another body, and the same name")
		}
		if other = e; other.Pre {
			other.Key = sample.Text(32, 99)
			if got, _ := leaf.Name(other); got == name {
				t.Error("another key, and the same name")
			}
		}
	}
	one := api.Entry{Body: strings.Repeat("k", 32) + "x"}
	two := api.Entry{Pre: true, Key: strings.Repeat("k", 32), Body: "x", Full: "x"}
	first, _ := leaf.Name(one)
	second, _ := leaf.Name(two)
	if first == second {
		t.Error("a precertificate has the name of another entry")
	}
}

// P15.2: a hash hangs on each part of the common part, and not on the others.
func TestHashes(t *testing.T) {
	for _, e := range both() {
		hash, _ := leaf.Hash(e)
		chain, body, time, index := e, e, e, e
		chain.Chain = prints(1, 70)
		if e.Pre {
			chain.Full = "another one"
		}
		body.Body += "x"
		time.Time++
		index.Index++
		if got, err := leaf.Hash(chain); got != hash || len(got) != 32 || err != api.OK {
			t.Errorf("another chain: got %s, %d, not %s", short(got), err, short(hash))
		}
		for _, other := range []api.Entry{body, time, index} {
			if got, err := leaf.Hash(other); got == hash || len(got) != 32 || err != api.OK {
				t.Errorf("%s: got %s, %d", shown(other), short(got), err)
			}
		}
	}
}

// P15.2: many entries, in the chapter's words.
func TestManyEntries(t *testing.T) {
	pre := 0
	for seed := range 1000 {
		e := someEntry(seed)
		if e.Pre {
			pre++
		}
		checkRight(t, e)
	}
	if pre < 300 || pre > 700 {
		t.Errorf("%d precertificates", pre)
	}
}
