package term

import (
	"math"
	"slices"
	"strings"
	"testing"

	"batten/api"
)

// P3.1

func TestNameOfEachByte(t *testing.T) {
	for c := range 256 {
		one := string([]byte{byte(c)})
		want := strings.Contains("abcdefghijklmnopqrstuvwxyzABCDEFGHIJKLMNOPQRSTUVWXYZ0123456789_.'", one)
		for _, s := range []string{one, one + "a", "a" + one, "a" + one + "a"} {
			if Name(s) != want {
				t.Errorf("%q: a name is %v", s, !want)
			}
		}
	}
}

func TestNameLengths(t *testing.T) {
	if len(name32) != api.MaxName {
		t.Fatal("the test's name has not MaxName bytes")
	}
	for s, want := range map[string]bool{"": false, "a": true, name32[:31]: true, name32: true, name33: false, strings.Repeat("a", 1<<20): false} {
		if Name(s) != want {
			t.Errorf("of %d bytes: a name is %v", len(s), !want)
		}
	}
}

func TestMay(t *testing.T) {
	for _, x := range append(small(),
		vr(far-1), lam(vr(far), vr(far)), // not what is bound is limited, but the number
		con("0"), con("."), con("'"), con(name32),
		prj("S", 0, vr(0)), prj(name32, api.MaxArgs-1, vr(0)),
		con("A", great, great, great, great),
		api.Term{K: api.Var, Ls: []api.Level{}, T: []api.Term{}},
		api.Term{K: api.Const, S: "A", Ls: []api.Level{}, T: []api.Term{}},
		api.Term{K: api.Sort, Ls: []api.Level{zero}, T: []api.Term{}},
		api.Term{K: api.App, Ls: []api.Level{}, T: []api.Term{vr(0), vr(0)}},
	) {
		if !May(x) {
			t.Errorf("%s may not be", text(x))
		}
	}
	for i, x := range bads() {
		if May(x) {
			t.Errorf("the one %d, that may not be, may be", i)
		}
	}
}

// fieldLists: lists of levels, and of terms, that stand in the nodes of TestMayIsAsToldOfAll.
func fieldLists() (levels [][]api.Level, terms [][]api.Term) {
	levels = [][]api.Level{nil, {}, {zero}, {great}, {zero, two}, {two, two, two}, {zero, param, great, two}, {zero, zero, zero, zero, zero}}
	for _, b := range badLevels {
		levels = append(levels, []api.Level{b}, []api.Level{zero, b}, []api.Level{b, zero, zero, zero})
	}
	bad := vr(-1)
	good := app(vr(0), vr(1))
	terms = [][]api.Term{nil, {}}
	for n := 1; n <= 4; n++ {
		terms = append(terms, slices.Repeat([]api.Term{good}, n))
		for i := range n {
			l := slices.Repeat([]api.Term{good}, n)
			l[i] = bad
			terms = append(terms, l)
		}
	}
	return levels, terms
}

// Of each kind, and what is none: all its fields, some, and others.
func TestMayIsAsToldOfAll(t *testing.T) {
	levels, terms := fieldLists()
	may := map[uint8]int{}
	for k := range 12 {
		for _, n := range []int{math.MinInt, -1, 0, 1, 11, 12, far, far + 1, math.MaxInt} {
			for _, s := range []string{"", "A", "a.b", name32, name33, "a-b"} {
				for _, ls := range levels {
					for _, ts := range terms {
						x := api.Term{K: uint8(k), N: n, S: s, Ls: ls, T: ts}
						want := wordsOf(x).may
						if May(x) != want {
							t.Fatalf("%s: may be: %v", text(x), !want)
						}
						if want {
							may[x.K]++
						}
					}
				}
			}
		}
	}
	for k := api.Sort; k <= api.Proj; k++ {
		if may[k] == 0 {
			t.Errorf("none of the kind %d was looked at that may be", k)
		}
	}
	for k := 12; k < 256; k++ {
		for _, x := range []api.Term{node(uint8(k)), node(uint8(k), vr(0)), node(uint8(k), vr(0), vr(0)), node(uint8(k), vr(0), vr(0), vr(0))} {
			if May(x) {
				t.Errorf("of the kind %d", k)
			}
		}
	}
}

// What may not be stands at each place of a term that may be.
func TestMayAtEachPlace(t *testing.T) {
	whole := let(pi(srt(zero), vr(0)), lam(con("A", two), prj("S", 2, vr(1))), app(app(vr(0), con("B")), let(vr(0), vr(1), vr(2))))
	if !May(whole) {
		t.Fatal("the whole may not be")
	}
	places := 0
	var each func(x *api.Term)
	each = func(x *api.Term) {
		places++
		was := *x
		for _, b := range []api.Term{{}, vr(-1), con(""), srt(badLevels[2]), node(api.App, vr(0)), {K: 9}} {
			*x = b
			if May(whole) {
				t.Errorf("with %s at the place %d", text(b), places)
			}
			wantNothing(t, whole)
		}
		*x = was
		for i := range x.T {
			each(&x.T[i])
		}
	}
	each(&whole)
	if places != 16 || !May(whole) {
		t.Errorf("%d places", places)
	}
}

func TestMaySize(t *testing.T) {
	for _, n := range []int{1, 2, 3, 4, 255, 4096, 65534, 65535, 65536} {
		if x := ofSize(n); !May(x) {
			t.Errorf("of %d nodes", n)
		}
	}
	for _, n := range []int{65537, 65538, 70000, 1 << 17, 1 << 20} {
		x := ofSize(n)
		if May(x) {
			t.Errorf("of %d nodes", n)
		}
		wantNothing(t, x)
	}
	half := ofSize(api.TopTerm / 2)
	for _, c := range []struct { // wherever the nodes are
		t    api.Term
		want bool
	}{
		{app(half, ofSize(api.TopTerm/2-1)), true},
		{app(half, half), false},
		{lam(ofSize(api.TopTerm/2-1), half), true},
		{pi(half, half), false},
		{let(vr(0), half, ofSize(api.TopTerm/2-2)), true},
		{let(half, vr(0), ofSize(api.TopTerm/2-1)), false},
		{prj("S", 0, ofSize(api.TopTerm-1)), true},
		{prj("S", 0, ofSize(api.TopTerm)), false},
	} {
		if May(c.t) != c.want {
			t.Errorf("of the kind %d: may be: %v", c.t.K, !c.want)
		}
	}
}

func TestMayDepth(t *testing.T) {
	for i, step := range steps {
		for _, in := range []api.Term{vr(0), con("A"), srt(zero)} {
			for _, n := range []int{1, 2, 255, 4095, 4096} {
				if !May(ofDepth(n, in, step)) {
					t.Errorf("way %d, %d deep", i, n)
				}
			}
			for _, n := range []int{4097, 4098, 8192, 20000} {
				x := ofDepth(n, in, step)
				if May(x) {
					t.Errorf("way %d, %d deep", i, n)
				}
				wantNothing(t, x)
			}
		}
	}
	deep := ofDepth(api.TopDepth-1, vr(0), steps[9])
	if !May(app(deep, deep)) || !May(let(deep, deep, deep)) {
		t.Error("what stands beside one another was counted")
	}
	for _, x := range []api.Term{app(vr(0), app(vr(0), deep)), let(app(deep, vr(0)), vr(0), vr(0)), app(prj("S", 0, deep), deep)} {
		if May(x) {
			t.Errorf("one too deep in a term of the kind %d", x.K)
		}
	}
}

func TestMayBothLimits(t *testing.T) {
	deep := ofDepth(api.TopDepth-1, vr(0), steps[9]) // of as many nodes
	rest := api.TopTerm - api.TopDepth
	if x := app(deep, ofSize(rest)); !May(x) || Size(x) != api.TopTerm {
		t.Error("at both limits")
	}
	if May(app(deep, ofSize(rest+1))) || May(app(prj("S", 0, deep), ofSize(rest-1))) {
		t.Error("at one limit, and above the other one")
	}
}

// wantNothing of a term that may not be.
func wantNothing(t *testing.T, x api.Term) {
	t.Helper()
	if May(x) || Size(x) != 0 || Free(x) != 0 || len(Names(x)) != 0 {
		t.Errorf("may be %v, Size %d, Free %d, Names %q", May(x), Size(x), Free(x), Names(x))
	}
	for _, k := range []int{0, 1, far, -1, math.MaxInt, math.MinInt} {
		if Has(x, k) {
			t.Errorf("has %d", k)
		}
	}
	if Same(x, x) || Same(x, vr(0)) || Same(vr(0), x) {
		t.Error("the same as something")
	}
	if f, l := Spine(x); !zeroTerm(f) || len(l) != 0 {
		t.Errorf("a spine of %d", len(l))
	}
	for _, got := range []api.Term{Apply(x), Apply(x, vr(0)), Apply(vr(0), x), Apply(vr(0), vr(0), x, vr(0)), Apply(x, x)} {
		if !zeroTerm(got) {
			t.Errorf("applied: of the kind %d", got.K)
		}
	}
}

func TestNothingOfWhatMayNotBe(t *testing.T) {
	for _, x := range bads() {
		wantNothing(t, x)
		for _, y := range []api.Term{app(x, vr(0)), lam(vr(0), x), let(vr(0), con("A"), x), prj("S", 0, x)} {
			wantNothing(t, y)
		}
	}
}
