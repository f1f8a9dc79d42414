package pack

const (
	headWord   = "SNT1"
	headLength = len(headWord) + 4 // with the Sum
	sumBase    = 65521
)

// ops are the Ops, each at the place by which it is written.
func ops() []string {
	return []string{"<", "<=", "=", "!=", ">=", ">"}
}

// withHead is bytes with the head that stands ahead of them.
func withHead(body []byte) []byte {
	sum := Sum(body)
	out := append([]byte(headWord), byte(sum>>24), byte(sum>>16), byte(sum>>8), byte(sum))
	return append(out, body...)
}

// fold is a number with a sign as one from nought on.
func fold(n int) int {
	if n < 0 {
		return -2*n - 1
	}
	return 2 * n
}

// unfold is the number with a sign that was folded.
func unfold(n int) int {
	if n%2 == 1 {
		return -(n + 1) / 2
	}
	return n / 2
}
