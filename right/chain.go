package right

import (
	"slices"

	"mandrel/api"
)

// trail tells by which step each fact came to hold that did not at the start.
type trail map[int]api.RightStep

// chain returns a chain for a taboo that is broken, if no step was used yet.
func (b *board) chain(taboo []int) []api.RightStep {
	steps, came := b.search(taboo)
	b.prune(steps, came, taboo)
	kept := slices.DeleteFunc(steps, func(s api.RightStep) bool {
		_, ok := came[b.rule(s).Gives]
		return !ok
	})
	chain := make([]api.RightStep, len(kept))
	copy(chain, kept)
	return chain
}

// search uses steps until a taboo is broken, and returns them with their trail. Each of them brings a fact, so there are no more than facts.
func (b *board) search(taboo []int) ([]api.RightStep, trail) {
	var room [api.MaxRightFacts]api.RightStep
	steps, came := room[:0:b.Facts], trail{}
search:
	for range b.Facts {
		for s := range b.news {
			came[b.use(s)] = s
			steps = append(steps, s)
			if b.isBroken(taboo) {
				break search
			}
		}
	}
	return steps, came
}

// prune takes out of a trail the facts that a taboo does not need, if it is that of the steps.
// From the last step back, all that need a fact have been looked at before the step by which it came.
func (b *board) prune(steps []api.RightStep, came trail, taboo []int) {
	needed := of(taboo...)
	for _, s := range slices.Backward(steps) {
		r := b.rule(s)
		if needed.has(r.Gives) {
			needed.add(r.Needs...)
		} else {
			delete(came, r.Gives)
		}
	}
}

// follow uses the steps of a chain; not ok if one of them is none, or cannot be used behind those before it.
func (b *board) follow(chain []api.RightStep) bool {
	for _, s := range chain {
		if !b.isStep(s) || !b.isOpen(s) {
			return false
		}
		b.use(s)
	}
	return true
}
