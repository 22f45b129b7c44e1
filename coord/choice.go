package coord

import (
	"slices"

	"wavewright/api"
	"wavewright/graph"
)

// choice of a work's stacks, by their numbers.
type choice struct {
	needs *graph.Graph
	named []int
}

// choose the stacks that are named; none named: all.
func choose(w api.Work, targets []string) (choice, error) {
	numbers := map[string]int{}
	var named []int
	for i, s := range w.Stacks {
		numbers[s.Name] = i
		if len(targets) == 0 {
			named = append(named, i)
		}
	}
	for _, name := range targets {
		i, is := numbers[name]
		if !is {
			return choice{}, api.ErrNone
		}
		named = append(named, i)
	}
	needs, err := graph.New(w.Needs)
	return choice{needs: needs, named: named}, err
}

// withNeeded: those that are named, and those that they need, however far, each behind those that it needs.
func (x choice) withNeeded() ([]int, error) {
	under, err := x.needs.Under(x.named)
	if err != nil {
		return nil, err
	}
	return x.inOrder(under)
}

// inOrder: these, each once, in the order of all.
func (x choice) inOrder(l []int) ([]int, error) {
	all, err := x.needs.Order()
	return slices.DeleteFunc(all, func(i int) bool { return !slices.Contains(l, i) }), err
}

// others, that are not named, and need some that are, however far.
func (x choice) others() ([]int, error) {
	over, err := x.needs.Over(x.named)
	return slices.DeleteFunc(over, func(i int) bool { return slices.Contains(x.named, i) }), err
}

// namesOf stacks, by their numbers.
func namesOf(w api.Work, l []int) []string {
	var names []string
	for _, i := range l {
		names = append(names, w.Stacks[i].Name)
	}
	return names
}
