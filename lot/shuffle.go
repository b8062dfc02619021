package lot

// maxOrder is how many numbers an order has at most.
const maxOrder = 64

// Shuffle draws an order of the numbers from 0 to n - 1; none, if they are too few or too many.
func (x *Lots) Shuffle(n int) []int {
	if x.none() || n < 1 || n > maxOrder {
		return nil
	}
	order := rising(n)
	for done := range n - 1 {
		i := n - 1 - done
		other := x.Pick(i + 1)
		order[i], order[other] = order[other], order[i]
	}
	return order
}

// rising tells the numbers from 0 to n - 1, each at its own place.
func rising(n int) []int {
	out := make([]int, n)
	for i := range out {
		out[i] = i
	}
	return out
}
