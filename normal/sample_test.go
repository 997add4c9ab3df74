package normal

import (
	"testing"

	"batten/api"
	"batten/sample"
)

// P10.1, P10.2: the sample of the rules, and the chapter's examples over it.

func TestTheExamples(t *testing.T) {
	e := basis(t)
	says(t, "add of 1 and 1, and 2", e, add(num(1), num(1)), num(2), 14, api.Alike)
	becomes(t, "add of 1 and 1", e, add(num(1), num(1)), num(2), 14)
	says(t, "f, and the lambda of it", e, lam(n, app(f, vr(0))), f, 0, api.Alike)
	becomes(t, "the lambda of f", e, lam(n, app(f, vr(0))), f, 0)
	says(t, "p, and the pair of its Projs", e, p, both(p), 0, api.Alike)
	becomes(t, "the pair of p's Projs", e, both(p), p, 0)
}

func TestTheSample(t *testing.T) {
	e := basis(t)
	for what, c := range sample.Sums() {
		becomes(t, what, e, c.X, c.Want, c.Steps)
	}
}

// All reckoning is as it is with numbers.
func TestTheSampleReckons(t *testing.T) {
	e := basis(t)
	for what, c := range sample.Reckonings() {
		says(t, what, e, c.X, num(c.Want), 1<<20, api.Alike)
		says(t, what+", and one more", e, c.X, num(c.Want+1), 1<<20, api.Unlike)
		if got, _, f := Form(e, c.X, 1<<20); f != api.OK || text(got) != text(num(c.Want)) {
			t.Errorf("%s: error %d, %.300s, want %d", what, f, text(got), c.Want)
		}
	}
}

// All names of the sample, at any number of levels, of any number of arguments, are as the words say.
func TestTheWordsOfTheSample(t *testing.T) {
	e := basis(t)
	for _, x := range sample.Rows() {
		for _, y := range []api.Term{x, second(x), app(count(x), a), both(x), lam(n, app(x, vr(0)))} {
			obeyed(t, e, y, 80)
		}
	}
}
