package secret

import (
	"maps"
	"slices"

	"shibboleth/api"
)

// A plan is a recipe that has no end yet. It has at most one step for each term.
type plan struct {
	ops   []api.Op
	steps map[api.ID]int // by a term: the step that yields it
	base  *plan          // the plan that is continued, if any; it must not change any more
}

// further returns a plan that continues p without changing it.
func (p *plan) further() *plan {
	return &plan{steps: map[api.ID]int{}, base: p}
}

// start returns the number of the first step that is not a step of the plan that is continued.
func (p *plan) start() int {
	if p.base == nil {
		return 0
	}
	return len(p.base.ops)
}

// add returns the number of a new step.
func (p *plan) add(op api.Op) int {
	p.ops = append(p.ops, op)
	return p.start() + len(p.ops) - 1
}

// step returns the number of the step that yields t, and whether there is one.
func (p *plan) step(t api.ID) (int, bool) {
	n, is := p.steps[t]
	if !is && p.base != nil {
		return p.base.step(t)
	}
	return n, is
}

func (p *plan) op(n int) api.Op {
	if n < p.start() {
		return p.base.op(n)
	}
	return p.ops[n-p.start()]
}

// only returns the recipe whose last step is the step n of the plan: the steps that it needs.
func (p *plan) only(n int) []api.Op {
	numbers := map[int]int{n: 0}
	for todo := []int{n}; len(todo) > 0; {
		op := p.op(todo[0])
		todo = todo[1:]
		for _, x := range operands(&op) {
			if _, is := numbers[*x]; !is {
				numbers[*x] = 0
				todo = append(todo, *x)
			}
		}
	}
	var recipe []api.Op
	// An operand is an earlier step: it has its new number before a step refers to it.
	for i, old := range slices.Sorted(maps.Keys(numbers)) {
		op := p.op(old)
		for _, x := range operands(&op) {
			*x = numbers[*x]
		}
		numbers[old] = i
		recipe = append(recipe, op)
	}
	return recipe
}

// operands returns the numbers of an operation that are those of steps.
func operands(op *api.Op) []*int {
	switch op.Kind {
	case api.OpDerive:
		return []*int{&op.A, &op.B, &op.C}
	case api.OpExp, api.OpSign, api.OpSeal, api.OpOpen, api.OpAdd:
		return []*int{&op.A, &op.B}
	case api.OpPub, api.OpHash, api.OpAt:
		return []*int{&op.A}
	}
	return nil
}
