package regex

// signs are those of the kinds of nodes, in their order.
const signs = "e1&|*+?^$"

const hexDigits = "0123456789abcdef"

// Print: a tree as a text.
func Print(n Node) string {
	return string(n.print(nil))
}

// print: a text with that of a tree behind it.
func (n Node) print(out []byte) []byte {
	out = append(out, signs[min(max(n.Op, 0), len(signs)-1)])
	if n.Op == One {
		for _, word := range n.Set {
			out = appendHex(out, word)
		}
	}
	for _, kid := range n.Kids {
		out = append(out, '(')
		out = kid.print(out)
		out = append(out, ')')
	}
	return out
}

// appendHex: a text with all sixteen digits of a word behind it.
func appendHex(out []byte, word uint64) []byte {
	for i := range 16 {
		out = append(out, hexDigits[word>>(60-4*i)&15])
	}
	return out
}
