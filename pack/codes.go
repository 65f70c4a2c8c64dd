package pack

import (
	"cmp"
	"slices"

	"tidemark/api"
)

// mostBits is how long a code is at most.
const mostBits = 31

// Lengths is how long each sign's code is, by weights: those of weight 0 have none.
func Lengths(weights []int) ([]int, api.Errno) {
	all := 0
	for _, w := range weights {
		if w < 0 || w > api.MaxIndex-all {
			return nil, api.ErrRange
		}
		all += w
	}
	places := heavy(weights)
	sorted := make([]int, len(places))
	for k, i := range places {
		sorted[k] = weights[i]
	}
	out := make([]int, len(weights))
	for k, n := range depths(sorted) {
		if n > mostBits {
			return nil, api.ErrLong
		}
		out[places[k]] = n
	}
	return out, api.OK
}

// heavy is the places of the weights above 0, by rising weights, of one weight in their order.
func heavy(weights []int) []int {
	var l []int
	for i, w := range weights {
		if w > 0 {
			l = append(l, i)
		}
	}
	slices.SortStableFunc(l, func(i, j int) int { return cmp.Compare(weights[i], weights[j]) })
	return l
}

// depths is how deep each of some knots, which come by rising weights, stands below the last one that is made of them. Those that are made come by rising weights, too: so the least of all is the first that is left of the given ones, or of the made ones; of one weight the given one, which stands ahead.
func depths(given []int) []int {
	n := len(given)
	if n < 2 {
		return slices.Repeat([]int{1}, n)
	}
	weight, above := slices.Clone(given), make([]int, 2*n-1)
	one, made := 0, n
	takeLeast := func() int {
		k := one
		if made < len(weight) && (one == n || weight[made] < weight[one]) {
			k = made
			made++
		} else {
			one++
		}
		above[k] = len(weight)
		return weight[k]
	}
	for len(weight) < len(above) {
		weight = append(weight, takeLeast()+takeLeast())
	}
	return down(above)[:n]
}

// down is how many knots stand above each one, the last of which has none above it.
func down(above []int) []int {
	deep := make([]int, len(above))
	for k := len(above) - 2; k >= 0; k-- {
		deep[k] = deep[above[k]] + 1
	}
	return deep
}

// Codes is each sign's code, by lengths: the shorter ones first, of one length the signs in their order.
func Codes(lengths []int) ([]int, api.Errno) {
	out, code := make([]int, len(lengths)), 0
	for n := 1; n <= mostBits; n++ {
		for i, long := range lengths {
			if long < 0 || long > mostBits {
				return nil, api.ErrRange
			}
			if long != n {
				continue
			}
			if code >= 1<<n {
				return nil, api.ErrPack
			}
			out[i] = code
			code++
		}
		code *= 2
	}
	return out, api.OK
}
