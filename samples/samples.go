// Package samples: inputs that the tests of several packages share. The program itself does not use it.
package samples

// EachText hands over all texts of these letters, up to that many letters.
func EachText(letters string, most int, take func(string)) {
	texts := []string{""}
	for range most {
		for _, s := range texts {
			take(s)
		}
		var longer []string
		for _, s := range texts {
			for i := range len(letters) {
				longer = append(longer, s+letters[i:i+1])
			}
		}
		texts = longer
	}
	for _, s := range texts {
		take(s)
	}
}
