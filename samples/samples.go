// Package samples: inputs that the tests of several packages share. The program itself does not use it.
package samples

import "slices"

// EachList hands over all lists of these, up to that many, shorter ones first.
func EachList[T any](of []T, most int, take func([]T)) {
	lists := [][]T{nil}
	for left := most; left >= 0; left-- {
		var longer [][]T
		for _, l := range lists {
			take(slices.Clone(l))
			if left == 0 {
				continue
			}
			for _, x := range of {
				longer = append(longer, append(slices.Clone(l), x))
			}
		}
		lists = longer
	}
}

// EachText hands over all texts of these letters, up to that many letters.
func EachText(letters string, most int, take func(string)) {
	EachList([]byte(letters), most, func(l []byte) { take(string(l)) })
}
