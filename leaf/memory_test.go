package leaf_test

import (
	"slices"
	"strings"
	"sync"
	"testing"
	"unsafe"

	"engrosser/api"
	"engrosser/leaf"
	"engrosser/sample"
)

// lender lends texts in memory of its own, which is written into behind what is asked with them.
type lender struct {
	memories [][]byte
	were     []string
}

func (l *lender) lend(s string) string {
	memory := []byte(s + "more")
	l.memories, l.were = append(l.memories, memory), append(l.were, string(memory))
	return unsafe.String(&memory[0], len(s))
}

// entry answers e with all of its texts lent.
func (l *lender) entry(e api.Entry) api.Entry {
	chain := make([]string, 0, len(e.Chain)+2)
	for _, one := range e.Chain {
		chain = append(chain, l.lend(one))
	}
	e.Body, e.Chain = l.lend(e.Body), chain
	if e.Pre {
		e.Key, e.Full = l.lend(e.Key), l.lend(e.Full)
	}
	return e
}

// keeps tells whether all is yet as it was lent, and wipes it.
func (l *lender) keeps() bool {
	same := true
	for at, memory := range l.memories {
		same = same && string(memory) == l.were[at]
		clear(memory)
	}
	return same
}

// P3: what is handed in is not written into, nor is it a part of what is answered.
func TestNothingIsKept(t *testing.T) {
	for _, e := range both() {
		for _, c := range calls() {
			l := &lender{}
			handed := l.entry(e)
			got, err := c.of(handed)
			spare := handed.Chain[len(handed.Chain):cap(handed.Chain)]
			if !l.keeps() || got != c.words(e) || err != api.OK || strings.Join(spare, "") != "" {
				t.Errorf("%s: got %s, %d", c.name, short(got), err)
			}
		}
		l := &lender{}
		got, rest, err := leaf.TakeTile(l.lend(wordsTile(e) + "rest"))
		if !l.keeps() || !same(got, e) || rest != "rest" || err != api.OK {
			t.Errorf("TakeTile: got %s, %s, %d", shown(got), short(rest), err)
		}
	}
}

// P3: nor are certificates, and the list of them.
func TestChainIsNotKept(t *testing.T) {
	for _, pre := range []bool{false, true} {
		certs := []string{plainCert(1), keyCert(2), keyCert(3)}
		if pre {
			certs[0] = preCert(1)
		}
		l := &lender{}
		chain := make([]string, 0, 5)
		for _, cert := range certs {
			chain = append(chain, l.lend(cert))
		}
		want, _ := wordsMake(certs, pre, 4, 5)
		got, err := leaf.Make(chain, pre, 4, 5)
		if !slices.Equal(chain, certs) || strings.Join(chain[3:5], "") != "" {
			t.Error("the list is another one")
		}
		if !l.keeps() {
			t.Error("a certificate was written into")
		}
		clear(chain[:5])
		if !same(got, want) || err != api.OK {
			t.Errorf("got %s, %d, not %s", shown(got), err, shown(want))
		}
	}
}

// textsOf answers all texts of an entry.
func textsOf(e api.Entry) []string { return append([]string{e.Body, e.Key, e.Full}, e.Chain...) }

// checkApart: no text of the one list shares memory with one of the other.
func checkApart(t *testing.T, ones, others []string) {
	t.Helper()
	for _, one := range ones {
		for _, other := range others {
			if one == "" || other == "" {
				continue
			}
			p, q := uintptr(unsafe.Pointer(unsafe.StringData(one))), uintptr(unsafe.Pointer(unsafe.StringData(other)))
			if p < q+uintptr(len(other)) && q < p+uintptr(len(one)) {
				t.Errorf("%s and %s share memory", short(one), short(other))
			}
		}
	}
}

// checkLists: the lists of two answers, written over with their spare room, leave each other alone, and what is answered next.
func checkLists(t *testing.T, ask func() api.Entry) {
	t.Helper()
	one, two := ask(), ask()
	checkApart(t, textsOf(one), textsOf(two))
	want := slices.Clone(two.Chain)
	clear(one.Chain[:cap(one.Chain)])
	clear(two.Chain[len(two.Chain):cap(two.Chain)])
	if !slices.Equal(two.Chain, want) || !slices.Equal(ask().Chain, want) {
		t.Error("a list was written over")
	}
}

// P3: what two calls answer shares no memory.
func TestAnswersAlone(t *testing.T) {
	for _, e := range both() {
		for _, c := range calls() {
			one, _ := c.of(e)
			two, _ := c.of(e)
			checkApart(t, []string{one}, append(textsOf(e), two))
		}
		s := wordsTile(e) + "and the rest"
		got, rest, _ := leaf.TakeTile(s)
		_, again, _ := leaf.TakeTile(s)
		checkApart(t, append(textsOf(got), rest), []string{s, again})
		checkLists(t, func() api.Entry {
			e, _, _ := leaf.TakeTile(s)
			return e
		})
	}
	certs, _ := keyCerts(3)
	for _, pre := range []bool{false, true} {
		chain := append([]string{plainCert(1)}, certs...)
		if pre {
			chain[0] = preCert(1)
		}
		got, _ := leaf.Make(chain, pre, 1, 2)
		checkApart(t, textsOf(got), chain)
		checkLists(t, func() api.Entry {
			e, _ := leaf.Make(chain, pre, 1, 2)
			return e
		})
	}
}

// P4: what others ask at the same time is not to be seen.
func TestAtOneTime(t *testing.T) {
	var group sync.WaitGroup
	for i := range 8 {
		group.Go(func() {
			certs, sums := keyCerts(1 + i%4)
			for j := range 60 {
				checkRight(t, someEntry(100*i+j))
				checkTakeWords(t, sample.Text(200, 100*i+j))
				e := api.Entry{Pre: true, Body: bodyOf(ext(j)), Key: keySum(20), Full: preCert(j), Chain: sums, Time: i, Index: j}
				checkMake(t, append([]string{preCert(j)}, certs...), true, i, j, e, api.OK)
				checkRefused(t, append([]string{plainCert(j)}, certs...), true, i, j, api.ErrForm)
			}
		})
	}
	group.Wait()
}
