package leaf_test

import (
	"slices"
	"strings"
	"testing"

	"engrosser/api"
	"engrosser/leaf"
	"engrosser/sample"
)

// plainCert and preCert answer a certificate without a poison, and one with it; of each number another one.
func plainCert(n int) string { return certOf(bodyOf(ext(n))) }

func preCert(n int) string { return certOf(bodyOf(ext(n), poison())) }

// keyCert answers a certificate with a key of n bytes, and keySum the sum of that key.
func keyCert(n int) string {
	all := sample.Fields()
	all[6] = sample.Key(n)
	return certOf(list(all...))
}

func keySum(n int) string { return sumOf(sample.Key(n)) }

// longCert is too long, and twoPoisons has more poisons than there may be.
func longCert() string { return strings.Repeat("x", 2001) }

func twoPoisons() string { return certOf(bodyOf(poison(), ext(1), poison())) }

// keyCerts answers so many certificates, each with another key, and their sums.
func keyCerts(count int) (certs, sums []string) {
	for at := range count {
		certs = append(certs, keyCert(20+at))
		sums = append(sums, sumOf(certs[at]))
	}
	return certs, sums
}

// P15.1: an entry of a certificate, with up to four behind it.
func TestMakePlain(t *testing.T) {
	for count := range 5 {
		certs, sums := keyCerts(count)
		for n := range 130 {
			cert := plainCert(n)
			e := api.Entry{Body: cert, Chain: sums, Time: 100 + n, Index: n}
			checkMake(t, append([]string{cert}, certs...), false, 100+n, n, e, api.OK)
			checkRight(t, e)
		}
	}
}

// P15.1: an entry of a precertificate, with one to four certificates behind it.
func TestMakePre(t *testing.T) {
	for count := 1; count < 5; count++ {
		certs, sums := keyCerts(count)
		for n := range 130 {
			cert := preCert(n)
			e := api.Entry{Pre: true, Body: bodyOf(ext(n)), Key: keySum(20), Full: cert, Chain: sums, Time: 100 + n, Index: n}
			checkMake(t, append([]string{cert}, certs...), true, 100+n, n, e, api.OK)
			checkRight(t, e)
		}
	}
}

// P15.1: the order of a chain counts, and one certificate may stand there twice.
func TestMakeOrder(t *testing.T) {
	a, b, p := keyCert(1), keyCert(2), preCert(3)
	for _, c := range [][2]string{{a, b}, {b, a}, {a, a}, {b, b}} {
		sums := []string{sumOf(c[0]), sumOf(c[1])}
		checkMake(t, []string{a, c[0], c[1]}, false, 5, 6, api.Entry{Body: a, Chain: sums, Time: 5, Index: 6}, api.OK)
		key := keySum(1)
		if c[0] == b {
			key = keySum(2)
		}
		checkMake(t, []string{p, c[0], c[1]}, true, 5, 6, api.Entry{Pre: true, Body: bodyOf(ext(3)), Key: key, Full: p, Chain: sums, Time: 5, Index: 6}, api.OK)
	}
}

// P15.1: no certificate, or more than may be, whatever they are.
func TestMakeCount(t *testing.T) {
	for _, pre := range []bool{false, true} {
		checkRefused(t, nil, pre, 0, 0, api.ErrArg)
		checkRefused(t, []string{}, pre, 0, 0, api.ErrArg)
		checkRefused(t, make([]string, 0, 7), pre, 0, 0, api.ErrArg)
		for _, count := range []int{6, 7, 8, 9, 10, 16, 100, 1000} {
			for _, cert := range []string{plainCert(1), preCert(1), "", "x", longCert()} {
				chain := slices.Repeat([]string{cert}, count)
				checkRefused(t, chain, pre, 0, 0, api.ErrArg)
				chain[0] = plainCert(2)
				checkRefused(t, chain, pre, 0, 0, api.ErrArg)
				chain[0], chain[1] = preCert(2), plainCert(3)
				checkRefused(t, chain, pre, 0, 0, api.ErrArg)
			}
		}
	}
}

// P15.1: times and places, right ones and wrong ones; wrong ones ahead of all that is wrong with certificates.
func TestMakeStand(t *testing.T) {
	a, p := plainCert(1), preCert(1)
	check := func(time, index int, right bool) {
		t.Helper()
		if right {
			checkMake(t, []string{a}, false, time, index, api.Entry{Body: a, Time: time, Index: index}, api.OK)
			checkMake(t, []string{p, a}, true, time, index, api.Entry{Pre: true, Body: bodyOf(ext(1)), Key: keySum(32), Full: p, Chain: []string{sumOf(a)}, Time: time, Index: index}, api.OK)
			return
		}
		for _, chain := range [][]string{{a}, {a, a}, {p, a}, {p}, {"x"}, {""}, {longCert()}, {a, longCert()}, {twoPoisons()}, {p, p}} {
			checkRefused(t, chain, false, time, index, api.ErrArg)
			checkRefused(t, chain, true, time, index, api.ErrArg)
		}
	}
	for _, time := range rightTimes() {
		check(time, 0, true)
		check(time, api.MaxSize-1, true)
	}
	for _, index := range rightIndexes() {
		check(0, index, true)
		check(api.MaxTime, index, true)
	}
	for _, time := range wrongTimes {
		check(time, 0, false)
		check(time, api.MaxSize, false)
	}
	for _, index := range wrongIndexes {
		check(0, index, false)
		check(api.MaxTime, index, false)
	}
}

// P15.1: what Strip refuses is refused at each place of a chain, as Strip does.
func TestMakeNoCertificates(t *testing.T) {
	for _, c := range []struct {
		cert string
		e    api.Errno
	}{
		{"", api.ErrForm}, {"x", api.ErrForm}, {"\x30\x00", api.ErrForm}, {plainCert(1) + "x", api.ErrForm}, {plainCert(1)[1:], api.ErrForm}, {bodyOf(), api.ErrForm}, {twoPoisons(), api.ErrForm}, {certOf(list(item(0xa3))), api.ErrForm},
		{strings.Repeat("x", 2000), api.ErrForm}, {longCert(), api.ErrLong}, {plainCert(2000), api.ErrLong}, {preCert(2000), api.ErrLong}, {strings.Repeat("\x30", 1<<20), api.ErrLong},
	} {
		for count := 1; count <= 5; count++ {
			for place := range count {
				certs, _ := keyCerts(count)
				certs[place] = c.cert
				checkRefused(t, certs, false, 0, 0, c.e)
				checkRefused(t, certs, true, 0, 0, c.e)
				if place > 0 {
					certs[0] = preCert(1)
					checkRefused(t, certs, false, 0, 0, c.e)
					checkRefused(t, certs, true, 0, 0, c.e)
				}
			}
		}
	}
}

// P15.1: of what Strip refuses the first one is told, and ahead of poisons that may not be.
func TestMakeFirstError(t *testing.T) {
	form, long := "x", longCert()
	for count := 2; count <= 5; count++ {
		for first := range count {
			for second := first + 1; second < count; second++ {
				for _, pre := range []bool{false, true} {
					certs, _ := keyCerts(count)
					certs[first], certs[second] = form, long
					checkRefused(t, certs, pre, 0, 0, api.ErrForm)
					certs[first], certs[second] = long, form
					checkRefused(t, certs, pre, 0, 0, api.ErrLong)
					for _, one := range []string{preCert(1), plainCert(1)} {
						certs[first], certs[second] = one, long
						checkRefused(t, certs, pre, 0, 0, api.ErrLong)
					}
				}
			}
		}
	}
	// The second one has no key, but a later one is refused first.
	for place := 2; place < 5; place++ {
		chain := []string{preCert(1), "\x30\x02\x30\x00", plainCert(1), plainCert(2), plainCert(3)}
		chain[place] = long
		checkRefused(t, chain, true, 0, 0, api.ErrLong)
	}
}

// P15.1: a poison, or none, at each place of a chain.
func TestMakePoisons(t *testing.T) {
	for count := 1; count <= 5; count++ {
		for which := range 1 << count {
			var chain, sums []string
			for at := range count {
				cert := plainCert(at)
				if which>>at&1 == 1 {
					cert = preCert(at)
				}
				chain, sums = append(chain, cert), append(sums, sumOf(cert))
			}
			if which == 0 {
				checkMake(t, chain, false, 1, 2, api.Entry{Body: chain[0], Chain: sums[1:], Time: 1, Index: 2}, api.OK)
			} else {
				checkRefused(t, chain, false, 1, 2, api.ErrForm)
			}
			if which == 1 && count > 1 {
				checkMake(t, chain, true, 1, 2, api.Entry{Pre: true, Body: bodyOf(ext(0)), Key: keySum(32), Full: chain[0], Chain: sums[1:], Time: 1, Index: 2}, api.OK)
			} else {
				checkRefused(t, chain, true, 1, 2, api.ErrForm)
			}
		}
	}
}

// keyless answer certificates without a key.
func keyless() []string {
	return []string{"\x30\x02\x30\x00", certOf(list()), certOf(list(sample.Fields()[:6]...)), certOf(list(sample.Fields()[1:6]...)), certOf(list(slices.Repeat([]string{item(4)}, 9)...)), certOf(list(append(sample.Fields()[:6], item(4))...)), certOf(list(append(sample.Fields()[:6], item(0xa3, list(ext(1))))...))}
}

// P15.1: the key is that of the second certificate alone, and just a precertificate needs it.
func TestMakeKeys(t *testing.T) {
	p := preCert(5)
	bare := certOf(list(item(0xa3, list(ext(5), poison()))))
	for _, n := range []int{0, 1, 32, 100, 128, 256, 600} {
		certs := []string{keyCert(n), keyCert(n + 1), "\x30\x02\x30\x00"}
		for count := 1; count <= 3; count++ {
			var sums []string
			for _, cert := range certs[:count] {
				sums = append(sums, sumOf(cert))
			}
			e := api.Entry{Pre: true, Body: bodyOf(ext(5)), Key: keySum(n), Full: p, Chain: sums}
			checkMake(t, append([]string{p}, certs[:count]...), true, 0, 0, e, api.OK)
			e.Full, e.Body = bare, list(item(0xa3, list(ext(5))))
			checkMake(t, append([]string{bare}, certs[:count]...), true, 0, 0, e, api.OK)
		}
	}
	for _, none := range keyless() {
		checkRefused(t, []string{p, none}, true, 0, 0, api.ErrForm)
		checkRefused(t, []string{p, none, keyCert(1), keyCert(2)}, true, 0, 0, api.ErrForm)
		checkMake(t, []string{none}, false, 3, 4, api.Entry{Body: none, Time: 3, Index: 4}, api.OK)
		checkMake(t, []string{none, none}, false, 3, 4, api.Entry{Body: none, Chain: []string{sumOf(none)}, Time: 3, Index: 4}, api.OK)
		e := api.Entry{Pre: true, Body: bodyOf(ext(5)), Key: keySum(1), Full: p, Chain: []string{sumOf(keyCert(1)), sumOf(none)}}
		checkMake(t, []string{p, keyCert(1), none}, true, 0, 0, e, api.OK)
	}
}

// P15.1: the shortest certificates and the longest ones, at each place.
func TestMakeSizes(t *testing.T) {
	short, shortPre := "\x30\x02\x30\x00", "\x30\x14\x30\x12\xa3\x10\x30\x0e\x30\x0c"+sample.PoisonName
	checkMake(t, []string{short}, false, 0, 0, api.Entry{Body: short}, api.OK)
	checkMake(t, []string{shortPre, keyCert(1)}, true, 0, 0, api.Entry{Pre: true, Body: "\x30\x00", Key: keySum(1), Full: shortPre, Chain: []string{sumOf(keyCert(1))}}, api.OK)
	for size := api.MaxBody - 3; size <= api.MaxBody+3; size++ {
		cert, _ := sample.CertOf(size, false)
		pre, without := sample.CertOf(size, true)
		if len(cert) != size || len(pre) != size {
			t.Fatalf("%d and %d bytes, not %d", len(cert), len(pre), size)
		}
		sums := slices.Repeat([]string{sumOf(cert)}, 4)
		if size <= api.MaxBody {
			e := api.Entry{Body: cert, Chain: sums}
			checkMake(t, slices.Repeat([]string{cert}, 5), false, 0, 0, e, api.OK)
			checkRight(t, e)
			e = api.Entry{Pre: true, Body: without, Key: keySum(32), Full: pre, Chain: sums}
			checkMake(t, append([]string{pre}, slices.Repeat([]string{cert}, 4)...), true, 0, 0, e, api.OK)
			checkRight(t, e)
			continue
		}
		for place := range 5 {
			certs, _ := keyCerts(5)
			certs[place] = cert
			checkRefused(t, certs, false, 0, 0, api.ErrLong)
			certs[place] = pre
			checkRefused(t, certs, true, 0, 0, api.ErrLong)
		}
	}
}

// P15.1: chains of certificates of many kinds, in the chapter's words.
func TestMakeMany(t *testing.T) {
	kinds := append(keyless()[:3], plainCert(1), keyCert(2), preCert(3), certOf(list(item(0xa3, list(poison())))), twoPoisons(), "", "\x30\x03\x30\x00x", longCert())
	met := map[api.Errno]int{}
	for seed := range 6000 {
		b := sample.Text(10, seed)
		var chain []string
		for _, c := range []byte(b[1 : 1+int(b[0])%7]) {
			// The right kinds more often than the others.
			chain = append(chain, kinds[min(int(c)%32, int(c)/32+3)%len(kinds)])
		}
		for _, pre := range []bool{false, true} {
			met[checkMakeWords(t, chain, pre, int(b[7])<<40, int(b[8])<<21)]++
		}
	}
	if met[api.OK] < 100 || met[api.ErrArg] < 100 || met[api.ErrForm] < 100 || met[api.ErrLong] < 100 || len(met) != 4 {
		t.Errorf("these ends were met: %v", met)
	}
}

// P15.1, P15.3: what is made is written, and read as it was made.
func TestMadeIsRead(t *testing.T) {
	for n := range 100 {
		certs, _ := keyCerts(n % 5)
		made, err := leaf.Make(append([]string{plainCert(n)}, certs...), false, n, 10*n)
		if err != api.OK {
			t.Errorf("%d: got %d", n, err)
		}
		certs, _ = keyCerts(1 + n%4)
		pre, err := leaf.Make(append([]string{preCert(n)}, certs...), true, n, 10*n)
		if err != api.OK {
			t.Errorf("%d: got %d", n, err)
		}
		checkRight(t, made)
		checkRight(t, pre)
		checkBack(t, []api.Entry{made, pre, made})
	}
}
