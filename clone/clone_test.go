package clone_test

import (
	"reflect"
	"testing"

	"bureau/api"
	"bureau/clone"
	"bureau/expr"
)

const full = "with w(a, b) as (values (1, 2), (?3, -x'00')), v as (select 1 union all select 2) select distinct t.*, a as b, case a when 1 then f(distinct c) else g(*) end, cast(a as int) from w as t left join (select 1) u on a = 1, v where a not in (1, 2) and b in (select 3) group by a, b having count(*) > 1 intersect select exists (select 1 where (select 2)), 1, 2, 3 order by 1 desc, a collate nocase limit 1 + 2 offset a between 1 and 2"

// lists gathers the lists in a tree, each with its place.
func lists(v reflect.Value, l []reflect.Value) []reflect.Value {
	switch v.Kind() {
	case reflect.Struct:
		for i := range v.NumField() {
			l = lists(v.Field(i), l)
		}
	case reflect.Slice:
		if v.Len() > 0 {
			l = append(l, v)
		}
		for i := range v.Len() {
			l = lists(v.Index(i), l)
		}
	}
	return l
}

// apart tells whether no list of one tree lies where one of the other does.
func apart(x, y any) bool {
	at := map[uintptr]int{}
	for _, l := range lists(reflect.ValueOf(x), nil) {
		at[l.Pointer()]++
	}
	for _, l := range lists(reflect.ValueOf(y), nil) {
		if at[l.Pointer()] > 0 {
			return false
		}
	}
	return true
}

func TestCopies(t *testing.T) {
	s, _, no := expr.ParseSelect(full)
	if no != api.OK || len(lists(reflect.ValueOf(s), nil)) < 40 {
		t.Fatal(no)
	}
	if c := clone.Select(s); !expr.SameSelect(c, s) || !apart(c, s) {
		t.Errorf("%+v", c)
	}
	e := api.Expr{Op: api.OpAdd, Not: true, Table: "t", Name: "n", N: 7, V: api.Value{Kind: api.KindText, Int: 2, Text: "x"}, Args: []api.Expr{{Op: api.OpCol, Name: "a"}, {Sub: []api.Select{s}}}, Sub: []api.Select{s, {}, s}}
	if c := clone.Expr(e); !expr.Same(c, e) || !apart(c, e) {
		t.Errorf("%+v", c)
	}
	again, _, _ := expr.ParseSelect(full)
	if !reflect.DeepEqual(s, again) {
		t.Error("a copy changed what it is of")
	}
}

func TestLists(t *testing.T) {
	l := []api.Expr{{Op: 1}, {Op: 2, Args: []api.Expr{{Op: 3}}}}
	c := clone.List(l, clone.Expr)
	if !reflect.DeepEqual(l, c) || !apart(l, c) {
		t.Error(c)
	}
	c[0].Op = 9
	if l[0].Op != 1 || clone.List(nil, clone.Expr) != nil || clone.List([]api.Expr{}, clone.Expr) != nil {
		t.Error(l)
	}
	if c := clone.Select(api.Select{With: []api.Cte{}, Limit: []api.Expr{}}); !reflect.DeepEqual(c, api.Select{}) {
		t.Errorf("%+v", c)
	}
}
