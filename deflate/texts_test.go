package deflate_test

import (
	"bytes"
	"math"
	"strings"

	"engrosser/byhand"
	"engrosser/sample"
)

// lettered answers a text of n bytes out of so many letters, some of which are there more often.
func lettered(n, letters, seed int) string {
	b := []byte(sample.Text(n, seed))
	for i, x := range b {
		b[i] = 'A' + byte(int(x)*int(x)%letters)
	}
	return string(b)
}

// even answers a text of n bytes below so many, which are there about equally often.
func even(n, below, seed int) string {
	b, more := []byte(sample.Text(n, seed)), sample.Text(n, seed+1000)
	for i, x := range b {
		b[i] = byte((256*int(x) + int(more[i])) % below)
	}
	return string(b)
}

// steep answers such a text, in which some greater bytes stand, too: the first of them once, the others each about 1.7 times as often as the one ahead. So their codes are long.
func steep(n, below, rare, seed int) string {
	b := []byte(even(n, below, seed))
	at := 7
	for i := range rare {
		for range timesRising(1.7, i) {
			b[at%n] = byte(below + i)
			at += 101
		}
	}
	return string(b)
}

// unlike answers a text of at most 65536 bytes in which no three bytes stand twice; with those of another salt it has no three bytes in common.
func unlike(n, salt int) string {
	b := make([]byte, 0, n+2)
	for i := 0; len(b) < n; i++ {
		b = append(b, byte(salt), byte(i), byte(i>>8)|0x80)
	}
	return string(b[:n])
}

// someTexts answers texts of many kinds.
func someTexts() []string {
	texts := []string{
		"", "a", "ab", "abc", "aaaa", "abcabcabcabc", "a certificate, a precertificate, a certificate", "\x00", "\xff\x00\xff",
		strings.Repeat("\x00", 1000), strings.Repeat("ab", 300), strings.Repeat("\xff\x00\x80", 90), strings.Repeat("0123456789", 7000),
		sample.Text(10, 1), sample.Text(300, 2), sample.Text(5000, 3), sample.Text(32768, 6), sample.Text(32769, 7), sample.Text(70000, 8),
		strings.Repeat(sample.Text(259, 4), 9), strings.Repeat(sample.Text(1000, 5), 3) + "end",
		sample.Text(32768, 9) + sample.Text(32768, 9), sample.Text(32769, 9) + sample.Text(32769, 9),
		sample.Text(32760, 10) + strings.Repeat("z", 40000) + sample.Text(32760, 10),
		lettered(40000, 10, 11), steep(32768, 200, 8, 2), steep(40000, 100, 12, 0),
	}
	for letters := 1; letters <= 60; letters += 7 {
		texts = append(texts, lettered(40*letters+50, letters, letters))
	}
	return texts
}

// farther answers a text whose second piece goes back once by a distance's symbol, and by each of those behind it about 1.64 times as often as by the one ahead.
func farther(first int) string {
	b := []byte(sample.Text(32768, 1))
	for i, row := range byhand.Distances()[first:] {
		for j := range timesRising(1.64, i) {
			b = goBack(b, row[0], 1<<row[1], j*7919)
		}
	}
	return string(b)
}

// timesRising answers a power as a whole number.
func timesRising(by float64, n int) int { return int(math.Pow(by, float64(n)) + 0.5) }

// goBack answers b, with three bytes behind that stand nowhere nearer than at one of so many distances, and one that does not stand behind them there.
func goBack(b []byte, least, distances, begin int) []byte {
	for i := begin; ; i++ {
		at := len(b) - least - i%distances
		three := b[at : at+3]
		if !bytes.Contains(b[at+1:], three) {
			return append(append(b, three...), ^b[at+3])
		}
	}
}
