package order

// halves hands on, two by two, the halves of l that wait to be merged, and where each two begin. Each has width of l; at the end of l one may have less, or be empty. l is not empty.
func halves[T any](l []T, width int, join func(at int, a, b []T)) {
	for i := range (len(l)-1)/(2*width) + 1 {
		at := 2 * width * i
		middle := min(at+width, len(l))
		end := min(middle+width, len(l))
		join(at, l[at:middle:middle], l[middle:end:end])
	}
}

// merge fills row with all of a, and of b, in order; row has just as much room.
func merge[T any](row, a, b []T, compare func(a, b T) int) {
merging:
	for at := range row {
		switch {
		case len(a) == 0 || len(b) == 0:
			// One of the two is all that is left.
			copy(row[at:], a)
			copy(row[at:], b)
			break merging
		case compare(b[0], a[0]) < 0:
			row[at], b = b[0], b[1:]
		default:
			row[at], a = a[0], a[1:]
		}
	}
}
