package der_test

import (
	"slices"
	"strings"
	"sync"
	"testing"
	"unsafe"

	"engrosser/api"
	"engrosser/der"
	"engrosser/sample"
)

// lent answers s in memory that is written into behind what is asked with it: keeps tells whether it is yet as it was, and wipes it.
func lent(s string) (text string, keeps func() bool) {
	memory := []byte(s + "more")
	return unsafe.String(&memory[0], len(s)), func() bool {
		same := string(memory) == s+"more"
		clear(memory)
		return same
	}
}

// P3: what is handed in is not written into, nor is it a part of what is answered.
func TestNothingIsKept(t *testing.T) {
	text, keeps := lent("\x30\x02ab\x04\x00rest")
	x, e := der.Next(text)
	if !keeps() || x != (der.Item{Tag: 0x30, Text: "ab", Rest: "\x04\x00rest"}) || e != api.OK {
		t.Errorf("Next: got %x, %q, %q, %d", x.Tag, x.Text, x.Rest, e)
	}
	text, keeps = lent("a text")
	s, e := der.Wrap(4, text)
	if !keeps() || s != "\x04\x06a text" || e != api.OK {
		t.Errorf("Wrap: got %q, %d", s, e)
	}
	text, keeps = lent("\x30\x02ab\x04\x00\x05\x01c")
	parts, e := der.Parts(text)
	if !keeps() || e != api.OK || !slices.Equal(parts, []der.Item{{Tag: 0x30, Text: "ab", Rest: "\x04\x00\x05\x01c"}, {Tag: 4, Rest: "\x05\x01c"}, {Tag: 5, Text: "c"}}) {
		t.Errorf("Parts: got %q, %d", texts(parts), e)
	}
	text, keeps = lent(certOf(bodyOf(poison(), ext(3))))
	tbs, pre, e := der.Strip(text)
	if !keeps() || tbs != bodyOf(ext(3)) || !pre || e != api.OK {
		t.Errorf("Strip: got %s, %v, %d", short(tbs), pre, e)
	}
	text, keeps = lent(certOf(bodyOf()))
	sum, e := der.Key(text)
	if !keeps() || sum != sumOf(key(32)) || e != api.OK {
		t.Errorf("Key: got %s, %d", short(sum), e)
	}
}

// apart: the two texts share no memory.
func apart(one, two string) bool {
	if one == "" || two == "" {
		return true
	}
	p, q := uintptr(unsafe.Pointer(unsafe.StringData(one))), uintptr(unsafe.Pointer(unsafe.StringData(two)))
	return p+uintptr(len(one)) <= q || q+uintptr(len(two)) <= p
}

// P3: what two calls answer shares no memory, and the lists have no spare room that they share.
func TestAnswersAlone(t *testing.T) {
	s := strings.Repeat("\x04\x03abc", 9)
	one, _ := der.Parts(s)
	two, _ := der.Parts(s)
	third, _ := der.Next(s)
	fourth, _ := der.Next(s)
	for at := range one {
		for _, x := range []string{one[at].Text, one[at].Rest, third.Text, third.Rest} {
			for _, y := range []string{two[at].Text, two[at].Rest, fourth.Text, fourth.Rest, s} {
				if !apart(x, y) {
					t.Errorf("%q and %q share memory", x, y)
				}
			}
		}
	}
	want := slices.Clone(two)
	for at := range one[:cap(one)] {
		one[:cap(one)][at] = der.Item{Tag: -1}
	}
	clear(two[len(two):cap(two)])
	if again, _ := der.Parts(s); !slices.Equal(again, want) || !slices.Equal(two, want) {
		t.Error("a list was written over")
	}
	cert := certOf(bodyOf(poison(), ext(3)))
	a, _, _ := der.Strip(cert)
	b, _, _ := der.Strip(cert)
	c, _ := der.Key(cert)
	d, _ := der.Key(cert)
	if !apart(a, b) || !apart(a, cert) || !apart(c, d) {
		t.Error("bodies, or keys, share memory")
	}
}

// P4: what others ask at the same time is not to be seen.
func TestAtOneTime(t *testing.T) {
	var group sync.WaitGroup
	for i := range 8 {
		group.Go(func() {
			for j := range 60 {
				all, s := someItems(j, i)
				checkParts(t, s, all, api.OK)
				checkWrap(t, 4, s, item(4, s), api.OK)
				checkNext(t, item(4, s)+"x", der.Item{Tag: 4, Text: s, Rest: "x"}, api.OK)
				checkPre(t, certOf(bodyOf(ext(j), poison())), bodyOf(ext(j)))
				checkWrong(t, sample.Text(j, i))
				checkKey(t, certOf(bodyOf(ext(j))), sumOf(key(32)), api.OK)
			}
		})
	}
	group.Wait()
}
