package eval_test

import (
	"testing"

	"wavewright/api"
	"wavewright/eval"
	"wavewright/value"
)

// dice: numbers that look drawn, the same each time.
type dice uint64

func (d *dice) below(n int) int {
	*d = *d*6364136223846793005 + 1442695040888963407
	return int(uint64(*d>>33) % uint64(n))
}

// of these texts one.
func (d *dice) one(l ...string) string { return l[d.below(len(l))] }

// value: at times none.
func (d *dice) value(deep int) api.Value {
	switch d.below(max(16-2*deep, 8)) {
	case 0, 1:
		return num(d.below(5))
	case 2:
		return num([]int{api.MaxNumber, -api.MaxNumber, -1, api.MaxNumber + 1}[d.below(4)])
	case 3, 4:
		return text("a twenty byte text.."[:d.below(21)])
	case 5, 6:
		return flag(d.below(2))
	case 7:
		return api.Value{N: d.below(30) / 29}
	case 8, 9, 10:
		v := list()
		for range d.below(4) {
			v.L = append(v.L, d.value(deep+1))
		}
		return v
	case 11:
		return wide(20 + d.below(42))
	}
	return rec(field(d.one("a", "a", "a", "A"), d.value(deep+1)), field(d.one("b", "b", "b", "a"), d.value(deep+1)))
}

// expr: at times none.
func (d *dice) expr(deep int) api.Expr {
	kind := api.Lit + d.below(10)
	if deep > 4 {
		kind = api.Lit + d.below(4)
	}
	e := api.Expr{Kind: kind, V: d.value(1), S: d.one("a", "b"), T: d.one("a", "b")}
	count := []int{api.Plus: 2, api.Same: 2, api.If: 3, api.Items: d.below(4), api.Parts: 2, api.Pick: 1, 11: 0}[kind]
	if d.below(30) == 0 {
		e.Kind, count = d.below(13)-1, d.below(4)
	}
	for range count {
		e.A = append(e.A, d.expr(deep+1))
	}
	if kind == api.Parts {
		e.N = []string{"a", d.one("b", "b", "b", "b", "a")}
	}
	if kind == api.Plus && count == 2 && d.below(2) == 0 {
		e.A = d.drawnPair()
	}
	if kind == api.If && count == 3 && d.below(4) > 0 {
		e.A[0] = d.drawnFlag(deep)
	}
	return e
}

// drawnPair of one Kind, whose sum may be out of bounds.
func (d *dice) drawnPair() []api.Expr {
	texts := []string{"", "x", "twenty-one bytes long", "a text of as many as forty bytes, it is."}
	numbers := []int{0, 1, api.MaxNumber, -1, -api.MaxNumber}
	if d.below(2) == 0 {
		return []api.Expr{lit(text(d.one(texts...))), lit(text(d.one(texts...)))}
	}
	return []api.Expr{lit(num(numbers[d.below(5)])), lit(num(numbers[d.below(5)]))}
}

func (d *dice) drawnFlag(deep int) api.Expr {
	if d.below(2) == 0 {
		return lit(flag(d.below(2)))
	}
	return of(api.Same, d.expr(deep+1), d.expr(deep+1))
}

func (d *dice) named() map[string]api.Value {
	m := map[string]api.Value{}
	for _, name := range []string{"a", "b"} {
		if d.below(12) > 0 {
			m[name] = d.value(1)
		}
	}
	return m
}

// reckon: as the words of F1 and F2 have it, one behind the other.
func reckon(e api.Expr, env eval.Env) (api.Value, error) {
	v, err := unchecked(e, env)
	if err == nil {
		err = value.Check(v)
	}
	return v, err
}

func unchecked(e api.Expr, env eval.Env) (api.Value, error) {
	var got []api.Value
	for i := range e.A {
		if e.Kind == api.If && (i > 0 || len(e.A) != 3) {
			break
		}
		v, err := reckon(e.A[i], env)
		if err != nil {
			return v, err
		}
		got = append(got, v)
	}
	v, ok := api.Value{}, true
	switch {
	case e.Kind == api.Lit:
		v = e.V
	case e.Kind == api.In:
		v, ok = env.In[e.S]
	case e.Kind == api.Of:
		v, ok = value.Get(env.Res[e.S], e.T)
	case e.Kind == api.From:
		v, ok = env.From[e.S][e.T]
	case e.Kind == api.Plus && len(got) == 2:
		return sum(got[0], got[1])
	case e.Kind == api.Same && len(got) == 2:
		v = flag(0)
		if value.Alike(got[0], got[1]) {
			v = flag(1)
		}
	case e.Kind == api.If && len(e.A) == 3:
		if got[0].Kind != api.Flag {
			return v, api.ErrKind
		}
		return unchecked(e.A[2-got[0].N], env)
	case e.Kind == api.Items:
		v = list(got...)
	case e.Kind == api.Parts && len(e.N) == len(got):
		v = rec()
		for i := range got {
			v.F = append(v.F, field(e.N[i], got[i]))
		}
	case e.Kind == api.Pick && len(got) == 1:
		if got[0].Kind != api.Rec {
			return v, api.ErrKind
		}
		v, ok = value.Get(got[0], e.S)
	default:
		return v, api.ErrShape
	}
	if !ok {
		return v, api.ErrNone
	}
	return v, nil
}

func sum(a, b api.Value) (api.Value, error) {
	v := api.Value{Kind: a.Kind, N: a.N + b.N, S: a.S + b.S, L: append(append([]api.Value(nil), a.L...), b.L...)}
	switch {
	case a.Kind != b.Kind || a.Kind != api.Num && a.Kind != api.Text && a.Kind != api.List:
		return v, api.ErrKind
	case v.N > api.MaxNumber || v.N < -api.MaxNumber || len(v.S) > api.MaxText:
		return v, api.ErrBound
	}
	return v, nil
}

// F1, F2: many expressions, each held against the words.
func TestDrawn(t *testing.T) {
	d, seen := dice(1), map[error]int{}
	for range 20000 {
		e := d.expr(1)
		env := eval.Env{In: d.named(), Res: d.named(), From: map[string]map[string]api.Value{"a": d.named(), "b": d.named()}}
		want, wantErr := reckon(e, env)
		got, err := eval.Eval(e, env)
		if wantErr != nil {
			want = api.Value{}
		}
		if err != wantErr || !value.Alike(got, want) {
			t.Fatalf("Eval(%v, %v) = %v, %v, want %v, %v", e, env, got, err, want, wantErr)
		}
		seen[err]++
	}
	for _, err := range []error{nil, api.ErrBound, api.ErrMany, api.ErrShape, api.ErrNone, api.ErrKind} {
		if seen[err] < 100 {
			t.Errorf("%v is told %d times", err, seen[err])
		}
	}
}
