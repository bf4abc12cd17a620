package chain

// lettersOf has of each number that may stand in a word what it stands for; of
// -k this is the inverse of what it is of k.
func lettersOf(l [][]int) map[int]thing {
	letters := map[int]thing{}
	for i, p := range l {
		x := thingOf(p)
		letters[i+1] = x
		letters[-i-1] = x.back()
	}
	return letters
}

// firstLetters has of each product of letters the first number of a word that
// is it, of as few numbers as can be (0 of what stays, which needs none); of
// all products, or of more than maxThings.
func firstLetters(letters map[int]thing) map[thing]int {
	firsts := map[thing]int{stays(): 0}
	met := []thing{stays()} // those of shorter words ahead
	take := func(k int, rest thing) {
		x := letters[k].then(rest)
		if _, there := firsts[x]; !there {
			firsts[x] = k
			met = append(met, x)
		}
	}
	for i := 0; i < len(met) && len(met) <= maxThings; i++ {
		for k := 1; k <= len(letters)/2; k++ {
			take(k, met[i])
			take(-k, met[i])
		}
	}
	return firsts
}
