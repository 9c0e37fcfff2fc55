package check

import (
	"iter"

	"peavey/api"
)

// isRisk reports whether a fraction is a risk.
func isRisk(r api.Ratio) bool {
	return within(1, api.MaxCheckDen, r.Den) && within(0, (r.Den-1)/2, r.Num)
}

// plans yields all plans of a test, by Sample, and then by Most.
func (b *bench) plans() iter.Seq[api.CheckPlan] {
	return func(yield func(api.CheckPlan) bool) {
		for sample := range b.All + 1 {
			for most := range sample + 1 {
				if !yield(api.CheckPlan{Sample: sample, Most: most}) {
					return
				}
			}
		}
	}
}

// sides returns in how many samples of a plan the good scaler does not pass, and in how many the bad one does.
func (b *bench) sides(p api.CheckPlan) (int64, int64) {
	return b.all[p.Sample] - b.good.atMost(p.Sample, p.Most), b.bad.atMost(p.Sample, p.Most)
}

// isRight reports whether a plan is right.
func (b *bench) isRight(p api.CheckPlan) bool {
	failed, passed := b.sides(p)
	return b.isRare(failed, p.Sample, b.A) && b.isRare(passed, p.Sample, b.B)
}
