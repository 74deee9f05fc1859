package der_test

import (
	"slices"
	"strings"
	"testing"

	"engrosser/api"
	"engrosser/der"
	"engrosser/sample"
)

func checkStrip(t *testing.T, cert string, want stripped) {
	t.Helper()
	tbs, pre, e := der.Strip(cert)
	if got := (stripped{tbs, pre, e}); got != want {
		t.Errorf("Strip(%s): got %s, %v, %d, not %s, %v, %d", short(cert), short(tbs), pre, e, short(want.tbs), want.pre, want.e)
	}
}

// checkPlain: a certificate without a poison.
func checkPlain(t *testing.T, cert string) {
	t.Helper()
	checkStrip(t, cert, stripped{})
}

// checkPre: a certificate with a poison; without it the body is that one, which has none.
func checkPre(t *testing.T, cert, body string) {
	t.Helper()
	checkStrip(t, cert, stripped{body, true, api.OK})
	checkPlain(t, certOf(body))
}

// checkWrong: no certificate, or one whose extensions are wrong.
func checkWrong(t *testing.T, cert string) {
	t.Helper()
	checkStrip(t, cert, stripped{e: api.ErrForm})
}

func checkKey(t *testing.T, cert, want string, e api.Errno) {
	t.Helper()
	if got, f := der.Key(cert); got != want || f != e {
		t.Errorf("Key(%s): got %s, %d, not %s, %d", short(cert), short(got), f, short(want), e)
	}
}

// checkWords: of any text both calls answer what the chapter's words ask.
func checkWords(t *testing.T, cert string) api.Errno {
	t.Helper()
	want := wordsStrip(cert)
	checkStrip(t, cert, want)
	sum, e := wordsKey(cert)
	checkKey(t, cert, sum, e)
	return want.e
}

// P14.3: certificates that are known, byte by byte.
func TestStripKnown(t *testing.T) {
	only := "\x30\x0c" + poisonName
	checkStrip(t, "\x30\x14\x30\x12\xa3\x10\x30\x0e"+only, stripped{"\x30\x00", true, api.OK})
	checkStrip(t, "\x30\x18\x30\x16\xa3\x14\x30\x12"+only+"\x30\x02\x05\x00", stripped{"\x30\x08\xa3\x06\x30\x04\x30\x02\x05\x00", true, api.OK})
	checkStrip(t, "\x30\x1c\x30\x18\xa3\x14\x30\x12\x30\x02\x05\x00"+only+"\x04\x00\x05\x00", stripped{"\x30\x0a\xa3\x06\x30\x04\x30\x02\x05\x00\x04\x00", true, api.OK})
	checkPlain(t, "\x30\x02\x30\x00")
	checkPlain(t, "\x30\x04\x30\x00\x04\x00")
	checkPlain(t, "\x30\x0a\x30\x08\xa3\x06\x30\x04\x30\x02\x05\x00")
}

// P14.3: without a poison there is nothing.
func TestStripPlain(t *testing.T) {
	checkPlain(t, certOf(bodyOf()))
	for count := 1; count < 20; count++ {
		var exts []string
		for at := range count {
			exts = append(exts, ext(at))
		}
		checkPlain(t, certOf(bodyOf(exts...)))
	}
	// The poison elsewhere.
	other := strings.Replace(bodyOf(ext(3)), "2026", "2126", 1)
	checkPlain(t, list(other, poison(), poisonName))
	for _, tag := range []int{0xa0, 0xa1, 0xa2, 0xa4, 0x83, 0x23, 0x03, 0x30} {
		checkPlain(t, certOf(list(append(fields(), item(tag, list(poison(), poison())))...)))
		checkPlain(t, certOf(list(append(fields(), item(tag, "\xff"), item(0xa3, list(ext(1))))...)))
	}
}

// P14.2, P14.3: one poison, at each place among others; two and more of them.
func TestStripPlaces(t *testing.T) {
	for count := range 8 {
		var others []string
		for at := range count {
			others = append(others, ext(at*20))
		}
		for place := range count + 1 {
			with := slices.Insert(slices.Clone(others), place, poison())
			checkPre(t, certOf(bodyOf(with...)), bodyOf(others...))
			for second := range count + 2 {
				both := slices.Insert(slices.Clone(with), second, poison())
				checkWrong(t, certOf(bodyOf(both...)))
				checkWrong(t, certOf(bodyOf(append(both, poison())...)))
				both[second] = list(poisonName)
				checkWrong(t, certOf(bodyOf(both...)))
			}
		}
	}
}

// P14.2: what is a poison is told by its first part alone.
func TestPoisons(t *testing.T) {
	for _, one := range []string{list(poisonName), list(poisonName, "\x05\x00"), list(poisonName, item(4, "\x05\x00")), list(poisonName, poisonName), list(poisonName, list(), item(4, sample.Text(300, 4))), list(poisonName, item(6, "\x55\x1d\x0f"))} {
		checkPre(t, certOf(bodyOf(one)), bodyOf())
		checkPre(t, certOf(bodyOf(one, ext(1))), bodyOf(ext(1)))
		checkPre(t, certOf(bodyOf(ext(1), one)), bodyOf(ext(1)))
		checkWrong(t, certOf(bodyOf(one, one)))
		checkWrong(t, certOf(bodyOf(one, ext(1), poison())))
	}
}

// P14.2: what is like the poison, and is none.
func TestNoPoisons(t *testing.T) {
	text := poisonName[2:]
	none := []string{
		list(item(1, "\xff"), poisonName), list(item(6, "\x55\x1d\x0f"), poisonName), list(list(poisonName)), list(item(4, poisonName)), list(item(6, poisonName)),
		list(item(6, text+"\x00")), list(item(6, text[:9])), list(item(6, "\x00"+text)), list(item(6)), list(item(6, text+text)), list(item(4, text)), list(item(0x26, text)), list(item(0x86, text)),
	}
	for bit := range 80 {
		other := []byte(text)
		other[bit/8] ^= 1 << (bit % 8)
		none = append(none, list(item(6, string(other)), item(4, "\x05\x00")))
	}
	for _, one := range none {
		checkPlain(t, certOf(bodyOf(one)))
		checkPlain(t, certOf(bodyOf(one, one)))
		checkPre(t, certOf(bodyOf(one, poison(), one)), bodyOf(one, one))
	}
}

// P14.3: lengths are made anew: of the extensions, of their part, and of the body, about each edge.
func TestStripLengths(t *testing.T) {
	for n := range 400 {
		checkPre(t, certOf(bodyOf(poison(), ext(n))), bodyOf(ext(n)))
		few := list(item(0xa3, list(list(item(4, sample.Text(n, 5))))))
		checkPre(t, certOf(list(item(0xa3, list(poison(), list(item(4, sample.Text(n, 5))))))), few)
		checkPre(t, certOf(list(item(4, sample.Text(n, 6)), item(0xa3, list(poison())))), list(item(4, sample.Text(n, 6))))
		great := list(poisonName, item(4, sample.Text(n, 7)))
		checkPre(t, certOf(bodyOf(ext(2), great)), bodyOf(ext(2)))
	}
	// Of the certificate itself nothing comes into the answer.
	for n := range 300 {
		checkStrip(t, list(bodyOf(poison()), item(3, sample.Text(n, 8))), stripped{bodyOf(), true, api.OK})
	}
}

// P14.3: the other parts of a body stay as they are, and where they are.
func TestStripOthers(t *testing.T) {
	some := append(fields(), item(0xa1, "ab"), item(0x1e, sample.Text(130, 9)), item(0xa4), item(0xfe, "\xff"), item(0))
	for place := range len(some) + 1 {
		with := slices.Insert(slices.Clone(some), place, item(0xa3, list(poison(), ext(5))))
		without := slices.Insert(slices.Clone(some), place, item(0xa3, list(ext(5))))
		checkPre(t, certOf(list(with...)), list(without...))
		alone := slices.Insert(slices.Clone(some), place, item(0xa3, list(poison())))
		checkPre(t, certOf(list(alone...)), list(some...))
	}
}

// P14.3, P14.4: just the first part a3 is looked into; if it is left out, the second one is the first.
func TestTwoExtensions(t *testing.T) {
	first, second := item(0xa3, list(poison())), item(0xa3, list(ext(4), poison()))
	checkStrip(t, certOf(list(first, item(4), second)), stripped{list(item(4), second), true, api.OK})
	checkPre(t, certOf(list(item(4), second)), list(item(4), item(0xa3, list(ext(4)))))
	checkPre(t, certOf(list(second, item(4), first)), list(item(0xa3, list(ext(4))), item(4), first))
	checkPre(t, certOf(list(second, second, second)), list(item(0xa3, list(ext(4))), second, second))
	for _, bad := range []string{item(0xa3), item(0xa3, "x"), item(0xa3, list(poison(), poison())), item(0xa3, list(item(4)))} {
		checkPre(t, certOf(list(second, bad)), list(item(0xa3, list(ext(4))), bad))
		checkPlain(t, certOf(list(item(0xa3, list(ext(4))), bad)))
		checkWrong(t, certOf(list(bad, second)))
		checkStrip(t, certOf(list(first, bad)), stripped{list(bad), true, api.OK})
		checkWrong(t, certOf(list(bad)))
	}
}

// P14.2, P14.3: a part a3 that is not so, with a poison in it and without.
func TestWrongExtensions(t *testing.T) {
	for _, good := range []string{ext(3), poison()} {
		for _, bad := range []string{
			"", "x", "\x30", "\x30\x01", "\x30\x80\x00\x00", good, item(4, good), item(0x31, good), item(0x10, good), list(good) + list(good), list(good) + "x", list(good)[:10], list(list(good)) + "\x00",
			list(good, "x"), list("x", good), list(good, "\x30"), list(item(4), good), list(good, item(4, item(6, "\x55"))), list(good, item(0x31, "\x04\x00")), list(good, item(0xa3, list(good))),
			list(good, list()), list(list(), good), list(good, list("x")), list(good, list(item(6, "\x55"), "x")), list(good, list(item(6, "\x55")+"\x1f\x00")), list(list(poisonName, "x"), good), list(good, list(poisonName, "\x04\x01")),
		} {
			cert := certOf(list(append(fields(), item(0xa3, bad))...))
			checkWrong(t, cert)
			checkKey(t, cert, sumOf(key(32)), api.OK)
		}
	}
}

// P14.2, P14.3: what is no certificate, or has a body without parts.
func TestNoCertificates(t *testing.T) {
	for _, exts := range [][]string{nil, {ext(3)}, {ext(3), poison()}} {
		body := bodyOf(exts...)
		right := certOf(body)
		for _, bad := range []string{
			"", "\x30", "\x30\x00", "x", right + "x", right + "\x04\x00", right + right, right[:len(right)-1], right[1:], "\x00" + right, list(), item(4, body), item(0x31, body), item(0x10, body), item(0xa0, body),
			list(item(4, body)), list(item(0x31, body)), list(item(4), body), list("x"), list("x", body), list(body, "x"), list(body, "\x04\x01"), list(body, "\x1f\x00"), list(body, "\x04\x81\x01a"), body, list(list("x")), list(list("\x04\x01")), list(list(append(fields(), "\x04")...)), list(list("x" + strings.Join(fields(), ""))), list(list(append(fields(), item(0xa3, list(exts...)), "\x1f\x00")...)),
		} {
			checkWrong(t, bad)
			checkKey(t, bad, "", api.ErrForm)
		}
		for n := range len(right) {
			checkWrong(t, right[:n])
			checkKey(t, right[:n], "", api.ErrForm)
		}
	}
}

// P14.2, P14.3: a certificate of just the most bytes; one more is told ahead of all else.
func TestLongest(t *testing.T) {
	for _, poisoned := range []bool{false, true} {
		for size := api.MaxBody - 3; size <= api.MaxBody; size++ {
			cert, without := sample.CertOf(size, poisoned)
			if len(cert) != size {
				t.Fatalf("%d bytes, not %d", len(cert), size)
			}
			want := stripped{}
			if poisoned {
				want = stripped{without, true, api.OK}
			}
			checkStrip(t, cert, want)
			checkKey(t, cert, sumOf(key(32)), api.OK)
			checkWrong(t, cert[:size-1])
			checkKey(t, cert[:size-1], "", api.ErrForm)
		}
		for _, size := range []int{api.MaxBody + 1, api.MaxBody + 2, 2 * api.MaxBody, 70000} {
			cert, _ := sample.CertOf(size, poisoned)
			for _, long := range []string{cert, strings.Repeat("x", size), "\x30" + strings.Repeat("\x00", size), strings.Repeat("\x04\x00", size)} {
				checkStrip(t, long, stripped{e: api.ErrLong})
				checkKey(t, long, "", api.ErrLong)
			}
		}
	}
	for _, none := range []string{strings.Repeat("x", api.MaxBody), strings.Repeat("\x30\x00", api.MaxBody/2)} {
		checkWrong(t, none)
		checkKey(t, none, "", api.ErrForm)
	}
}

// P14.2, P14.3: a hundred parts of a certificate, of a body, and of the extensions; of one more none can be had.
func TestManyParts(t *testing.T) {
	body := bodyOf(poison(), ext(1))
	small := list(item(5))
	for count := 90; count < 120; count++ {
		many := strings.Repeat(item(4), count)
		whole := list(body, many)
		parts := list(append(fields(), many, item(0xa3, list(ext(2), poison())))...)
		without := list(append(fields(), many, item(0xa3, list(ext(2))))...)
		exts := bodyOf(strings.Repeat(small, count), poison())
		rest := bodyOf(strings.Repeat(small, count))
		if count+1 <= 100 {
			checkPre(t, whole, bodyOf(ext(1)))
			checkPre(t, certOf(exts), rest)
			checkKey(t, whole, sumOf(key(32)), api.OK)
		} else {
			checkWrong(t, whole)
			checkWrong(t, certOf(exts))
			checkKey(t, whole, "", api.ErrForm)
		}
		checkKey(t, certOf(exts), sumOf(key(32)), api.OK)
		if count+8 <= 100 {
			checkPre(t, certOf(parts), without)
			checkKey(t, certOf(parts), sumOf(key(32)), api.OK)
		} else {
			checkWrong(t, certOf(parts))
			checkKey(t, certOf(parts), "", api.ErrForm)
		}
	}
	hundred := list(poisonName, strings.Repeat(item(4), 99))
	checkPre(t, certOf(bodyOf(ext(1), hundred)), bodyOf(ext(1)))
}

// P14.3: the key, whatever the extensions are, and whatever stands behind it.
func TestKeyKnown(t *testing.T) {
	for _, n := range []int{0, 1, 32, 100, 110, 114, 115, 116, 117, 118, 120, 127, 128, 240, 244, 245, 246, 247, 255, 256, 600} {
		all := fields()
		all[6] = key(n)
		for _, more := range []string{"", item(0xa3), item(0xa3, "x"), item(0xa3, list(ext(1))), item(0xa3, list(poison())), item(0xa3, list(poison(), poison())), key(3), item(0xa0), item(4, "x")} {
			checkKey(t, certOf(list(append(all, more)...)), sumOf(key(n)), api.OK)
			checkKey(t, certOf(list(append(all[1:], more)...)), sumOf(key(n)), api.OK)
		}
	}
	all := fields()
	for _, text := range []string{"", "x", "\x04\x01", "\x1f", sample.Text(128, 10), sample.Text(256, 10)} {
		all[6] = list(text)
		checkKey(t, certOf(list(all...)), sumOf(list(text)), api.OK)
		checkKey(t, list(list(all[1:]...)), sumOf(list(text)), api.OK)
	}
}

// P14.3: a body of too few parts, or whose sixth one has another tag; the first one is not counted if it has tag a0, and just the first one.
func TestKeyPlaces(t *testing.T) {
	for count := range 12 {
		for first := range 4 {
			var parts []string
			for range first {
				parts = append(parts, item(0xa0, "v"))
			}
			for at := range count {
				parts = append(parts, list(item(4, sample.Text(at, 11))))
			}
			place := 5 + min(first, 1)
			if place < len(parts) {
				checkKey(t, certOf(list(parts...)), sumOf(parts[place]), api.OK)
			} else {
				checkKey(t, certOf(list(parts...)), "", api.ErrForm)
			}
		}
	}
	for _, tag := range rightTags() {
		for at := range 9 {
			parts := slices.Repeat([]string{list(item(4, "x"))}, 9)
			parts[at] = item(tag, "\x04\x00")
			place := 5
			if at == 0 && tag == 0xa0 {
				place = 6
			}
			if at != place || tag == 0x30 {
				checkKey(t, certOf(list(parts...)), sumOf(parts[place]), api.OK)
			} else {
				checkKey(t, certOf(list(parts...)), "", api.ErrForm)
			}
		}
	}
	// The sixth of all, of which the first is the version, is the key no more.
	parts := append([]string{item(0xa0)}, slices.Repeat([]string{list()}, 5)...)
	checkKey(t, certOf(list(parts...)), "", api.ErrForm)
	checkKey(t, certOf(list(append(parts, item(4))...)), "", api.ErrForm)
	checkKey(t, certOf(list(append(parts, key(4))...)), sumOf(key(4)), api.OK)
}

// P14.2, P14.3: certificates with a bit turned, with a byte more or less, in the chapter's words.
func TestCertsMany(t *testing.T) {
	met := map[api.Errno]int{}
	for _, cert := range []string{
		certOf(bodyOf()), certOf(bodyOf(ext(3), poison())), certOf(bodyOf(poison())), list(list(item(0xa3, list(poison(), ext(2))))), list(list(append(fields()[1:], item(0xa3, list(poison())), item(0xa3, list(poison())))...)),
	} {
		met[checkWords(t, cert)]++
		for at := range len(cert) {
			for bit := range 8 {
				other := []byte(cert)
				other[at] ^= 1 << bit
				met[checkWords(t, string(other))]++
			}
			for _, b := range []string{"", cert[at:at+1] + cert[at:at+1], "\x00", "\x30", "\xa3", "\xa0", "\xff"} {
				met[checkWords(t, cert[:at]+b+cert[at+1:])]++
			}
		}
	}
	if met[api.OK] < 1000 || met[api.ErrForm] < 1000 || len(met) != 2 {
		t.Errorf("these ends were met: %v", met)
	}
}

// treeOf answers items in items, made by the bytes of plan.
func treeOf(plan *string, depth int) string {
	next := func() byte {
		if *plan == "" {
			return 0
		}
		b := (*plan)[0]
		*plan = (*plan)[1:]
		return b
	}
	text := ""
	for range next() % 9 {
		switch kind := next() % 16; {
		case kind < 8 && depth > 0:
			text += list(treeOf(plan, depth-1))
		case kind < 11 && depth > 0:
			text += item(0xa3, list(treeOf(plan, depth-2)))
		case kind == 11:
			text += item(0xa0, "x")
		case kind < 14:
			text += poison()
		case kind == 14:
			text += item(int(next()%31), sample.Text(int(next()), 12))
		default:
			text += ext(2)
		}
	}
	return text
}

// extParts answers how many parts a3 the body of a certificate has.
func extParts(t *testing.T, cert string) (count int) {
	t.Helper()
	body, e := wordsBody(cert)
	if e != api.OK {
		t.Errorf("%s: got %d", short(cert), e)
	}
	for _, x := range body {
		if x.Tag == 0xa3 {
			count++
		}
	}
	return count
}

// P14.2 to P14.4: certificates of any items, in the chapter's words.
func TestTrees(t *testing.T) {
	met := map[api.Errno]int{}
	pre := 0
	for seed := range 6000 {
		plan := sample.Text(400, seed)
		cert := list(list(treeOf(&plan, 3)), treeOf(&plan, 2))
		met[checkWords(t, cert)]++
		if tbs, is, _ := der.Strip(cert); is {
			pre++
			checkWords(t, list(tbs))
			if extParts(t, cert) == 1 {
				checkPlain(t, list(tbs))
			}
		}
	}
	if pre < 50 || met[api.OK] < 500 || met[api.ErrForm] < 500 || met[api.ErrLong] < 10 {
		t.Errorf("these ends were met: %v, and %d poisons", met, pre)
	}
}
