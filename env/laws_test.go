package env

import (
	"slices"
	"testing"

	"batten/api"
	"batten/sample"
	"batten/term"
)

// P7.4

// What was added stays as it is, whatever is added behind it, and whatever was wrong with what was to be added.
func TestWhatWasAddedStays(t *testing.T) {
	e, w := New(), &words{}
	told := map[string]string{}
	for _, x := range sample.Infos() {
		e.Add(api.Info{Kind: api.IsDef, Name: x.Name, Type: x.Type, Value: vr(0)})
		l := []api.Info{x}
		if x.Name == "N" || x.Name[:1] == "N" && len(w.l) < 4 {
			l = sample.NumberInfos()
		}
		if in(w.l, x.Name) < 0 {
			adds(t, e, w, api.OK, l...)
		}
		for s, was := range told {
			if got, is := e.Find(s); !is || infoText(got) != was {
				t.Fatalf("%s was turned by %s", s, x.Name)
			}
		}
		for _, s := range e.List() {
			got, _ := e.Find(s)
			told[s] = infoText(got)
		}
	}
	if len(told) != len(sample.Infos()) {
		t.Errorf("%d infos", len(told))
	}
}

func rising(t *testing.T, e *Env) {
	t.Helper()
	for _, s := range e.List() {
		x, _ := e.Find(s)
		if x.Kind != api.IsDef {
			if x.Height != 0 {
				t.Fatalf("%s: Height %d", s, x.Height)
			}
			continue
		}
		if x.Height != e.Height(x.Value)+1 {
			t.Fatalf("%s: Height %d", s, x.Height)
		}
		for _, name := range term.Names(x.Value) {
			if y, is := e.Find(name); !is || y.Height >= x.Height {
				t.Fatalf("%s, of the Height %d, names %s, of %d", s, x.Height, name, y.Height)
			}
		}
	}
}

func TestHeightsRise(t *testing.T) {
	e, _ := filled(t, sample.Infos()...)
	rising(t, e)
}

// grown: infos that the bytes tell, with any fields; they may be, or not.
func grown(b []byte) []api.Info {
	next := func(of int) int {
		if len(b) == 0 {
			return 0
		}
		c := b[0]
		b = b[1:]
		return int(c) % of
	}
	number := func() int { return []int{0, 0, 0, 1, 1000, 1001, -1}[next(256)/40] }
	name := func() string {
		return []string{"A", "B.b", sample.Name32, "N", "c", "d", "e", "f", "g", "A", "B.b", sample.Name33}[next(12)]
	}
	tree := func() api.Term {
		n := min(next(32), len(b))
		t := sample.Grown(b[:n])
		if n == 0 {
			t = []api.Term{con("A"), con("B.b", two), srt(zero), srt(param), lam(con("c"), vr(0)), app(con("d"), con("e")), vr(0)}[next(7)]
		}
		b = b[n:]
		return t
	}
	var l []api.Info
	for range next(6) {
		x := api.Info{Kind: uint8(next(200) % 7), Name: name(), Params: next(7) - next(2), Type: tree(), Value: tree(), Height: number()}
		x.Fixed, x.Ctors, x.Record = number(), number(), next(2) == 0
		for range next(4) {
			x.Rules = append(x.Rules, rule(name(), number(), tree()))
		}
		l = append(l, x)
	}
	return l
}

// FuzzEnv: any infos, held against the words. (R1)
func FuzzEnv(f *testing.F) {
	for k := range byte(10) {
		f.Add([]byte{1, 1, k, 1, 0, 0, 0, 2, 0, k}, []byte{2, 2, 4, 1, 0, 0, k, 0, k, 3, 1, 0, 0, 1, 0, k, 0, 0}, []byte{k, k, k})
		f.Add([]byte{1, 1, 0, 2, 0, 0, 2, 0, 2}, []byte{1, 2, 4, 2, 0, 0, k, 0, 0, 0, 0, 0, 0, 2, 1, 1, 0, 2}, []byte{1, k, 0, 2, 0, 9, 3, 1, 1, 0, 1, 2, k})
	}
	f.Fuzz(func(t *testing.T, b, c, d []byte) {
		e, w := New(), &words{}
		for _, l := range [][]api.Info{grown(b), grown(c), {axiom(0, "c", srt(zero))}, grown(d), grown(b)} {
			adds(t, e, w, w.clone().add(l...), l...)
			for i, x := range l {
				if f := w.fault(slices.Clone(l[:i+1]), i); f == api.OK {
					adds(t, e, w, w.clone().add(x), x)
				}
			}
		}
		rising(t, e)
	})
}
