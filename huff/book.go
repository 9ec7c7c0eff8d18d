package huff

const (
	symbols  = 257 // the bytes, and end
	end      = 256
	shortest = 5  // bits of the shortest code
	longest  = 30 // bits of the longest code
)

// size is how many bits the symbol's code has.
func size(symbol int) int {
	// A letter a symbol, 16 to a line, as in the chapter: a is the shortest code, z the longest one.
	const letters = "" +
		"isxxxxxxxtzxxzxx" +
		"xxxxxxzxxxxxxxxx" +
		"bffhibdgffdgdbbb" +
		"aaabbbbbbbcdkbhf" +
		"ibcccccccccccccc" +
		"ccccccccdcdioijb" +
		"kabababbbaccbbba" +
		"bcbaabccccckgjix" +
		"prpprrrsrsssssts" +
		"ttrstssssqrsrsst" +
		"rqprrssqsrrtqrss" +
		"qqrqsrssprrrsrrs" +
		"vvporsruvvvwwvtu" +
		"oqvwwvwtqqvvxwww" +
		"ptpqrqqsrruuttvs" +
		"vwvvwwwwwxwwwwwv" +
		"z"
	return int(letters[symbol]-'a') + shortest
}

// book has the codes, and what leads from a code back to its symbol: the codes of as many bits are numbers without a gap.
type book struct {
	code  [symbols]uint32     // of each symbol
	order [symbols]int        // the symbols, as the codes were handed out
	first [longest + 1]uint32 // of each number of bits: the first code
	count [longest + 1]uint32 // how many codes there are
	ahead [longest + 1]uint32 // how many codes have fewer bits
}

func newBook() book {
	var k book
	for symbol := range symbols {
		k.count[size(symbol)]++
	}
	for n := shortest; n <= longest; n++ {
		k.first[n] = (k.first[n-1] + k.count[n-1]) << 1
		k.ahead[n] = k.ahead[n-1] + k.count[n-1]
	}
	var taken [longest + 1]uint32
	for symbol := range symbols {
		n := size(symbol)
		k.code[symbol] = k.first[n] + taken[n]
		k.order[k.ahead[n]+taken[n]] = symbol
		taken[n]++
	}
	return k
}

// symbol is the one whose code these n bits are; no code may end within them.
func (k *book) symbol(bits uint32, n int) (int, bool) {
	// Never below 0: what is less than the first code of n bits begins with a shorter one.
	i := bits - k.first[n]
	if i >= k.count[n] {
		return 0, false
	}
	return k.order[k.ahead[n]+i], true
}
