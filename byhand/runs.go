package byhand

import (
	"slices"
	"strings"

	"engrosser/huff"
)

// Run is a symbol by which lengths are told, and the number behind it.
type Run [2]int

// Runs answers how lengths are told, in the words of P11.2.
func Runs(lengths []int) []Run {
	var runs []Run
	for len(lengths) > 0 {
		n, first := 1, lengths[0]
		for n < len(lengths) && lengths[n] == first {
			n++
		}
		switch {
		case first == 0 && n >= 11:
			n = min(n, 138)
			runs = append(runs, Run{18, n - 11})
		case first == 0 && n >= 3:
			runs = append(runs, Run{17, n - 3})
		default:
			runs = append(runs, Run{first, 0})
			left := 0
			if first != 0 {
				left = n - 1
			}
			for n = 1; left >= 3; {
				most := min(left, 6)
				runs = append(runs, Run{16, most - 3})
				n, left = n+most, left-most
			}
		}
		lengths = lengths[n:]
	}
	return runs
}

// Order answers the order in which lengths of the code for lengths are told.
func Order() []int {
	return []int{16, 17, 18, 0, 8, 7, 9, 6, 10, 5, 11, 4, 12, 3, 13, 2, 14, 1, 15}
}

// Head answers what a block of kind 2 tells ahead of its text: so many symbols and distances, by a code of such lengths, of which so many are told.
func Head(symbols, distances int, ofLengths []int, count int, runs []Run) string {
	var b strings.Builder
	b.WriteString(Number(symbols-257, 5) + Number(distances-1, 5) + Number(count-4, 4))
	for _, i := range Order()[:count] {
		b.WriteString(Number(ofLengths[i], 3))
	}
	codes := Codes(ofLengths)
	for _, r := range runs {
		b.WriteString(codes[r[0]])
		switch r[0] {
		case 16:
			b.WriteString(Number(r[1], 2))
		case 17:
			b.WriteString(Number(r[1], 3))
		case 18:
			b.WriteString(Number(r[1], 7))
		}
	}
	return b.String()
}

// HeadOf answers what tells such lengths as P11.3 says.
func HeadOf(lengths, back []int) string {
	runs := Runs(slices.Concat(lengths, back))
	counts := make([]int, 19)
	for _, r := range runs {
		counts[r[0]]++
	}
	ofLengths, _ := huff.Lengths(counts, 7)
	order, count := Order(), 19
	for count > 4 && ofLengths[order[count-1]] == 0 {
		count--
	}
	return Head(len(lengths), len(back), ofLengths, count, runs)
}
