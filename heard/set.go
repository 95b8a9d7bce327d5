package heard

import "oche/api"

// set is some of at most MaxHeardBlame reports: it has the bit 1 << i just if the report number i is one of them.
type set int

// none is the set without any report.
const none set = 0

// all returns the set of so many reports.
func all(reports int) set { return 1<<reports - 1 }

// believes reports whether the report with a number is one of the set.
func (s set) believes(report int) bool { return s>>report&1 == 1 }

// wordBits is how many sets a word of a family is for.
const wordBits = 64

// family is some sets of reports: the bits of its words, one after the other, tell of each set whether it is one of them.
type family [1 << api.MaxHeardBlame / wordBits]uint64

// has reports whether a set is one of the family.
func (f family) has(s set) bool { return f[s/wordBits]>>(s%wordBits)&1 == 1 }

// add adds a set.
func (f *family) add(s set) { f[s/wordBits] |= 1 << (s % wordBits) }

// join returns all sets of two families.
func (f family) join(other family) family {
	for i, word := range other {
		f[i] |= word
	}
	return f
}

// with returns all sets of the family with more reports, of which none of them has any.
func (f family) with(more set) family {
	var sets family
	// Such a set is the sum of both numbers, and nothing is carried: all words move by as many words, and their bits by as many bits.
	words, bits := int(more/wordBits), int(more%wordBits)
	for i, word := range f[:len(f)-words] {
		sets[words+i] = word << bits
	}
	return sets
}

// parts returns all parts of the sets of the family, which are sets of so many reports.
func (f family) parts(reports int) family {
	for report := range reports {
		for s := range all(reports) + 1 {
			if f.has(s) && s.believes(report) {
				f.add(s &^ (1 << report))
			}
		}
	}
	return f
}
