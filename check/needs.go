package check

import (
	"slices"

	"wavewright/api"
)

// allNeeds: of each stack, of each of its resources, those that it needs; and of each stack the stacks that it needs.
func allNeeds(l []api.Stack) (resources [][][]int, stacks [][]int, err error) {
	for _, s := range l {
		n := needs{all: l, stack: s}
		if err := n.lookAll(); err != nil {
			return nil, nil, err
		}
		resources, stacks = append(resources, n.resources), append(stacks, n.stacks)
	}
	return resources, stacks, nil
}

// needs of a stack among all, as its expressions name them; in the order in which they are named first.
type needs struct {
	all       []api.Stack
	stack     api.Stack
	resources [][]int // of each resource that was looked at those of the stack that it needs
	stacks    []int
}

// lookAll: at the expressions of the resources, then of the outputs. ErrNone: one names what is not there.
func (n *needs) lookAll() error {
	for _, r := range n.stack.Resources {
		var own []int
		for _, p := range r.Parts {
			if err := n.look(p.E, &own); err != nil {
				return err
			}
		}
		n.resources = append(n.resources, own)
	}
	var own []int // what an output names of its stack is there behind all resources: nobody has to wait for it
	for _, x := range n.stack.Outputs {
		if err := n.look(x.E, &own); err != nil {
			return err
		}
	}
	return nil
}

// look at an expression, then at those in it; the resources that they name are added to own.
func (n *needs) look(e api.Expr, own *[]int) error {
	switch e.Kind {
	case api.In:
		if find(n.stack.Inputs, inputName, e.S) < 0 {
			return api.ErrNone
		}
	case api.Of:
		k := find(n.stack.Resources, resourceName, e.S)
		if k < 0 {
			return api.ErrNone
		}
		addOnce(own, k)
	case api.From:
		k := find(n.all, stackName, e.S)
		if k < 0 || find(n.all[k].Outputs, outputName, e.T) < 0 {
			return api.ErrNone
		}
		addOnce(&n.stacks, k)
	}
	for i := range e.A {
		if err := n.look(e.A[i], own); err != nil {
			return err
		}
	}
	return nil
}

// addOnce: behind the others, if it is not among them.
func addOnce(l *[]int, k int) {
	if !slices.Contains(*l, k) {
		*l = append(*l, k)
	}
}
