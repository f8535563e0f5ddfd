package expr_test

import (
	"reflect"
	"testing"

	"bureau/api"
	"bureau/expr"
)

// plain makes empty lists into none, so that all else can be held against each other as it stands.
func plain(v reflect.Value) {
	for _, p := range places(v, nil) {
		if p.Kind() == reflect.Slice && p.Len() == 0 {
			p.Set(reflect.Zero(p.Type()))
		}
	}
}

// TestP164Same: two trees are the same just if no place of theirs differs.
func TestP164Same(t *testing.T) {
	d := newDrawer(8)
	differ := 0
	for i := range 3000 {
		x := d.whole(1 + i%5)
		y := copied(x)
		if !expr.SameSelect(x, y) || !expr.SameSelect(y, x) {
			t.Fatalf("%+v is not the same as it", x)
		}
		for range 1 + d.Intn(2) {
			d.spoil(&y)
		}
		p, q := copied(x), copied(y)
		plain(reflect.ValueOf(&p).Elem())
		plain(reflect.ValueOf(&q).Elem())
		want := reflect.DeepEqual(p, q)
		if expr.SameSelect(x, y) != want || expr.SameSelect(y, x) != want || expr.Same(scalar(x), scalar(y)) != want || expr.Same(op(api.OpAdd, a, exists(x)), op(api.OpAdd, a, exists(y))) != want {
			t.Fatalf("%+v, %+v: the same: %v", x, y, !want)
		}
		if !want {
			differ++
		}
	}
	if differ < 800 {
		t.Error(differ)
	}
}

// copied is the same tree in other memory.
func copied(s api.Select) api.Select {
	return deepCopy(reflect.ValueOf(s)).Interface().(api.Select)
}

func deepCopy(v reflect.Value) reflect.Value {
	c := reflect.New(v.Type()).Elem()
	c.Set(v)
	switch v.Kind() {
	case reflect.Struct:
		for i := range v.NumField() {
			c.Field(i).Set(deepCopy(v.Field(i)))
		}
	case reflect.Slice:
		if v.IsNil() {
			return c
		}
		c.Set(reflect.MakeSlice(v.Type(), v.Len(), v.Len()))
		for i := range v.Len() {
			c.Index(i).Set(deepCopy(v.Index(i)))
		}
	}
	return c
}

func TestP164SameByHand(t *testing.T) {
	full := api.Expr{Op: 1, Not: true, Table: "a", Name: "b", N: 1, V: api.Value{Kind: 1, Int: 2, Text: "c"}, Args: one(a), Sub: subs(sel(a))}
	for _, change := range []func(*api.Expr){
		func(e *api.Expr) { e.Op = 2 }, func(e *api.Expr) { e.Not = false }, func(e *api.Expr) { e.Table = "A" }, func(e *api.Expr) { e.Name = "B" }, func(e *api.Expr) { e.N = 2 }, func(e *api.Expr) { e.V.Kind = 2 }, func(e *api.Expr) { e.V.Int = 3 }, func(e *api.Expr) { e.V.Text = "C" }, func(e *api.Expr) { e.Args = nil }, func(e *api.Expr) { e.Args = one(b) }, func(e *api.Expr) { e.Args = []api.Expr{a, a} }, func(e *api.Expr) { e.Sub = nil }, func(e *api.Expr) { e.Sub = subs(sel(b)) },
	} {
		other := full
		change(&other)
		if expr.Same(full, other) || expr.Same(other, full) || !expr.Same(other, other) {
			t.Errorf("%+v", other)
		}
	}
	if !expr.Same(api.Expr{Args: []api.Expr{}, Sub: []api.Select{}}, api.Expr{}) || !expr.SameSelect(api.Select{With: []api.Cte{}, Parts: []api.Part{}, Order: []api.Sort{}, Limit: []api.Expr{}, Offset: []api.Expr{}}, api.Select{}) {
		t.Error("an empty list is like none")
	}
}

// depthOf and greatestOf go through a tree whatever its fields are called.
func depthOf(v reflect.Value) int {
	deepest := 0
	switch v.Kind() {
	case reflect.Struct:
		for i := range v.NumField() {
			deepest = max(deepest, depthOf(v.Field(i)))
		}
		switch v.Interface().(type) {
		case api.Expr, api.Select:
			return deepest + 1
		}
	case reflect.Slice:
		for i := range v.Len() {
			deepest = max(deepest, depthOf(v.Index(i)))
		}
	}
	return deepest
}

func greatestOf(v reflect.Value) int {
	greatest := 0
	switch v.Kind() {
	case reflect.Struct:
		if e, is := v.Interface().(api.Expr); is && e.Op == api.OpParam {
			greatest = max(greatest, e.N)
		}
		for i := range v.NumField() {
			greatest = max(greatest, greatestOf(v.Field(i)))
		}
	case reflect.Slice:
		for i := range v.Len() {
			greatest = max(greatest, greatestOf(v.Index(i)))
		}
	}
	return greatest
}

func TestP164DepthAndParams(t *testing.T) {
	d := newDrawer(9)
	for i := range 2000 {
		s := d.whole(1 + i%6)
		for range d.Intn(3) {
			d.spoil(&s)
		}
		deepest, greatest := depthOf(reflect.ValueOf(s)), greatestOf(reflect.ValueOf(s))
		if n, p := expr.DepthSelect(s), expr.ParamsSelect(s); n != deepest || p != greatest {
			t.Fatalf("%+v: %d %d, not %d %d", s, n, p, deepest, greatest)
		}
		e := in(s, a)
		if n, p := expr.Depth(e), expr.Params(e); n != deepest+1 || p != greatest {
			t.Fatalf("%+v: %d %d, not %d %d", e, n, p, deepest+1, greatest)
		}
	}
}

func TestP164ByHand(t *testing.T) {
	p := param(9)
	for _, s := range []api.Select{sel(p), sel(a, p), parts(part(a), part(p)), parts(values(one(a), one(p))), parts(api.Part{Where: one(p)}), parts(api.Part{Where: []api.Expr{a, p}}), parts(api.Part{Group: []api.Expr{a, p}}), parts(api.Part{Having: one(p)}), parts(api.Part{From: []api.Source{{}, {On: one(p)}}}), {Order: []api.Sort{{Expr: a}, {Expr: p}}}, {Limit: one(p)}, {Offset: one(p)}, {Limit: []api.Expr{a, p}}} {
		if expr.ParamsSelect(s) != 9 || expr.DepthSelect(s) != 2 || expr.Params(scalar(s)) != 9 || expr.Depth(scalar(s)) != 3 || expr.Depth(api.Expr{Op: api.OpLit, Args: []api.Expr{a, scalar(s)}}) != 4 {
			t.Errorf("%+v", s)
		}
	}
	for _, s := range []api.Select{parts(from(api.Source{Sub: subs(sel(p))})), {With: []api.Cte{{}, {Body: subs(sel(p))}}}, {With: []api.Cte{{Body: []api.Select{sel(a), sel(p)}}}}, parts(from(api.Source{Sub: []api.Select{{}, sel(p)}}))} {
		if expr.ParamsSelect(s) != 9 || expr.DepthSelect(s) != 3 {
			t.Errorf("%+v", s)
		}
	}
	if expr.Depth(api.Expr{}) != 1 || expr.DepthSelect(api.Select{}) != 1 || expr.Params(api.Expr{}) != 0 || expr.ParamsSelect(api.Select{}) != 0 || expr.Params(param(-7)) != 0 || expr.Params(cases(99, a, b)) != 0 || expr.Params(op(api.OpAdd, param(3), param(99), param(4))) != 99 || expr.Params(api.Expr{Op: api.OpParam, N: 2, Args: one(param(5))}) != 5 {
		t.Error("of what has no parts, or wrong ones")
	}
}
