package group

import (
	"cmp"
	"slices"

	"tidemark/api"
	"tidemark/digest"
)

// Part is which one of so many parts a key is of.
func Part(parts int, key string) int {
	if parts < 1 {
		return 0
	}
	return int(digest.Place(api.Seed{}, key) % uint64(parts))
}

// Pass is the events of a part.
func Pass(parts, part int, l ...api.Event) []api.Event {
	if parts < 1 {
		return nil
	}
	var passed []api.Event
	for _, e := range l {
		if Part(parts, e.Key) == part {
			passed = append(passed, e)
		}
	}
	return passed
}

// Share is who has which part: all of so many shared by members, as evenly as can be, and as many as can be where they were.
func Share(owners, members []int) []int {
	next := make([]int, len(owners))
	team := teamOf(members)
	if len(team) == 0 {
		return next
	}
	room := rooms(owners, team)
	for i, member := range owners {
		if room[member] > 0 {
			next[i] = member
			room[member]--
		}
	}
	least := 0 // whoever stands ahead of it may have no more: room only shrinks
	for i, member := range next {
		if member > 0 {
			continue
		}
		for room[team[least]] == 0 {
			least++
		}
		next[i] = team[least]
		room[team[least]]--
	}
	return next
}

// teamOf is the members above 0, each once, rising.
func teamOf(members []int) []int {
	team := slices.DeleteFunc(slices.Clone(members), func(n int) bool { return n < 1 })
	slices.Sort(team)
	return slices.Compact(team)
}

// rooms is how many parts each of a team may have.
func rooms(owners, team []int) map[int]int {
	had := map[int]int{}
	for _, member := range owners {
		had[member]++
	}
	most := slices.Clone(team)
	slices.SortStableFunc(most, func(a, b int) int { return cmp.Compare(had[b], had[a]) })
	room := map[int]int{}
	for i, member := range most {
		room[member] = len(owners) / len(team)
		if i < len(owners)%len(team) {
			room[member]++
		}
	}
	return room
}
