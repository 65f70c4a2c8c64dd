package pack

import "tidemark/api"

// byteKinds is how many unlike bytes there are.
const byteKinds = 256

// Turn is the last bytes of all turns of some bytes, sorted, and which one is the bytes themselves.
func Turn(b []byte) ([]byte, int) {
	out, row := make([]byte, len(b)), 0
	for k, i := range turns(b) {
		if i == 0 {
			row = k
			i = len(b)
		}
		out[k] = b[i-1]
	}
	return out, row
}

// turns is where each turn begins, sorted. Each round sorts by twice as many bytes as the one ahead of it, so that long runs cost no more than other bytes.
func turns(b []byte) []int {
	n := len(b)
	all, first := make([]int, n), make([]int, n)
	for i, x := range b {
		all[i], first[i] = i, int(x)
	}
	order := byClass(all, first, byteKinds)
	class, kinds := classes(order, func(i, j int) bool { return b[i] == b[j] })
	for wide := 1; wide < n && kinds < n; wide *= 2 {
		was := class
		order = byClass(back(order, wide), was, kinds)
		class, kinds = classes(order, func(i, j int) bool {
			return was[i] == was[j] && was[(i+wide)%n] == was[(j+wide)%n]
		})
	}
	return byClass(all, class, kinds)
}

// byClass is places sorted by their classes, those of one class as they were.
func byClass(places, class []int, kinds int) []int {
	start := make([]int, kinds+1)
	for _, c := range class {
		start[c+1]++
	}
	for c := range kinds {
		start[c+1] += start[c]
	}
	out := make([]int, len(places))
	for _, i := range places {
		out[start[class[i]]] = i
		start[class[i]]++
	}
	return out
}

// back is the places that stand so far ahead of others, round and round.
func back(places []int, far int) []int {
	n := len(places)
	out := make([]int, n)
	for k, i := range places {
		out[k] = (i + n - far) % n
	}
	return out
}

// classes is the class of each place, and how many classes there are, by an order in which places that are alike stand together.
func classes(order []int, alike func(i, j int) bool) ([]int, int) {
	class, kinds := make([]int, len(order)), 0
	for k, i := range order {
		if k == 0 || !alike(order[k-1], i) {
			kinds++
		}
		class[i] = kinds - 1
	}
	return class, kinds
}

// Unturn is the bytes of which these are the turns' last ones.
func Unturn(b []byte, row int) ([]byte, api.Errno) {
	if row < 0 || row > max(len(b)-1, 0) {
		return nil, api.ErrArg
	}
	next := nexts(b)
	out := make([]byte, len(b))
	for i := len(b) - 1; i >= 0; i-- {
		out[i] = b[row]
		row = next[row]
	}
	return out, api.OK
}

// nexts is of each place how many bytes are less than its own, and how many ahead of it are alike.
func nexts(b []byte) []int {
	var start [byteKinds + 1]int
	for _, x := range b {
		start[int(x)+1]++
	}
	for x := range byteKinds {
		start[x+1] += start[x]
	}
	out := make([]int, len(b))
	for i, x := range b {
		out[i] = start[x]
		start[x]++
	}
	return out
}
