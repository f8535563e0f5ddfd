package expr_test

import (
	"math/rand"
	"strconv"
	"strings"

	"bureau/api"
)

// drawer draws trees that texts have.
type drawer struct{ *rand.Rand }

func newDrawer(seed int64) *drawer { return &drawer{rand.New(rand.NewSource(seed))} }

func (d *drawer) of(l string) string {
	words := strings.Fields(l)
	return words[d.Intn(len(words))]
}

func (d *drawer) name() string { return d.of("a b t u x X Int nocase _1 a_b") }

func (d *drawer) names(n int) []string {
	var l []string
	for range n {
		l = append(l, d.name())
	}
	return l
}

func (d *drawer) leaf() api.Expr {
	switch d.Intn(7) {
	case 0:
		return null()
	case 1:
		return num([]int64{0, 7, 1 << 40, 1<<63 - 1}[d.Intn(4)])
	case 2:
		return text(d.of("a it's '' -- ; NULL é"))
	case 3:
		return blob([]string{"", "\x00", "a\xff'"}[d.Intn(3)])
	case 4:
		return param(1 + d.Intn(api.MaxParams))
	case 5:
		return of(d.name(), d.name())
	}
	return col(d.name())
}

func (d *drawer) exprs(n, depth int) []api.Expr {
	var l []api.Expr
	for range n {
		l = append(l, d.expr(depth))
	}
	return l
}

// expr draws one that is no deeper than that.
func (d *drawer) expr(depth int) api.Expr {
	if depth <= 1 || d.Intn(6) == 0 {
		return d.leaf()
	}
	below := depth - 1
	o := api.OpNeg + api.Op(d.Intn(int(api.OpCall-api.OpNeg)+1))
	switch o {
	case api.OpNeg, api.OpPlus, api.OpNot:
		return op(o, d.expr(below))
	case api.OpLike, api.OpGlob:
		return d.maybeNot(op(o, d.exprs(2, below)...))
	case api.OpBetween:
		return d.maybeNot(op(o, d.exprs(3, below)...))
	case api.OpIn:
		if below > 1 && d.Intn(2) == 0 {
			return d.maybeNot(in(d.sel(below), d.expr(below)))
		}
		return d.maybeNot(op(o, d.exprs(1+d.Intn(4), below)...))
	case api.OpExists, api.OpScalar:
		if below < 2 {
			return d.leaf()
		}
		e := scalar(d.sel(below))
		e.Op = o
		if o == api.OpExists {
			e = d.maybeNot(e)
		}
		return e
	case api.OpCase:
		n := d.Intn(4)
		return cases(n, d.exprs(2+2*d.Intn(3)+n&1+n>>1, below)...)
	case api.OpCast:
		return cast(d.expr(below), d.of("INTEGER int Text BLOB"))
	case api.OpCollate:
		return collate(d.expr(below), d.of("BINARY nocase RTrim"))
	case api.OpCall:
		n := d.Intn(3)
		return call(d.of("f count REPLACE replace "+d.name()), n, d.exprs([]int{d.Intn(4), 1, 0}[n], below)...)
	}
	return op(o, d.exprs(2, below)...)
}

func (d *drawer) maybeNot(e api.Expr) api.Expr {
	e.Not = d.Intn(2) == 0
	return e
}

// sel draws a query; its depth is at least 1, by a star.
func (d *drawer) sel(depth int) api.Select {
	below := depth - 1
	s := parts(d.part(below))
	for d.Intn(4) == 0 {
		s.Parts = append(s.Parts, comp(api.CompUnion+api.Compound(d.Intn(4)), d.part(below)))
	}
	if below < 1 {
		return s
	}
	for d.Intn(3) == 0 {
		s.Order = append(s.Order, api.Sort{Expr: d.expr(below), Desc: d.Intn(2) == 0})
	}
	if d.Intn(4) == 0 {
		s.Limit = d.exprs(1, below)
		s.Offset = d.exprs(d.Intn(2), below)
	}
	return s
}

// whole draws a select, with a WITH now and then.
func (d *drawer) whole(depth int) api.Select {
	s := d.sel(depth)
	for depth > 2 && d.Intn(3) == 0 {
		s.With = append(s.With, api.Cte{Name: d.name(), Cols: d.names(d.Intn(3)), Body: subs(d.sel(depth - 1))})
	}
	return s
}

func (d *drawer) as() string {
	if d.Intn(2) == 0 {
		return ""
	}
	return d.name()
}

func (d *drawer) part(below int) api.Part {
	if below > 0 && d.Intn(4) == 0 {
		n, p := 1+d.Intn(3), api.Part{}
		for range 1 + d.Intn(3) {
			p.Values = append(p.Values, d.exprs(n, below))
		}
		return p
	}
	p := api.Part{Distinct: d.Intn(4) == 0}
	for range 1 + d.Intn(3) {
		switch k := d.Intn(5); {
		case k == 0 || below < 1:
			p.Items = append(p.Items, api.Item{Star: true})
		case k == 1:
			p.Items = append(p.Items, api.Item{Star: true, Table: d.name()})
		default:
			p.Items = append(p.Items, api.Item{Expr: d.exprs(1, below), As: d.as()})
		}
	}
	if d.Intn(3) > 0 {
		p.From = d.from(below)
	}
	if below > 0 {
		p.Where = d.exprs(d.Intn(2), below)
		p.Group = d.exprs(d.Intn(3), below)
		p.Having = d.exprs(d.Intn(1+min(1, len(p.Group))), below)
	}
	return p
}

func (d *drawer) from(below int) []api.Source {
	var l []api.Source
	for range 1 + d.Intn(3) {
		f := api.Source{Name: d.name(), As: d.as()}
		if below > 1 && d.Intn(4) == 0 {
			f.Name, f.Sub = "", subs(d.sel(below))
		}
		if len(l) > 0 {
			f.Join = api.Join(d.Intn(2))
			if below > 0 {
				f.On = d.exprs(d.Intn(2), below)
			}
		}
		l = append(l, f)
	}
	return l
}

// speller tells trees as texts, by the chapter's words and nothing else: words with a blank between each two, but where glue stands between.
type speller struct {
	glue     string
	brackets func(e api.Expr, level int) bool // do they stand around a part, where one of that level is wanted?
	choose   func(ways ...string) string
}

// level is the one of the chapter's table on which an expression's text stands, the loosest one first.
func level(e api.Expr) int {
	switch e.Op {
	case api.OpOr:
		return 0
	case api.OpAnd:
		return 1
	case api.OpNot:
		return 2
	case api.OpEq, api.OpNe, api.OpIs, api.OpIsNot, api.OpLike, api.OpGlob, api.OpBetween, api.OpIn:
		return 3
	case api.OpLt, api.OpLe, api.OpGt, api.OpGe:
		return 4
	case api.OpAdd, api.OpSub:
		return 5
	case api.OpMul, api.OpDiv, api.OpRem:
		return 6
	case api.OpConcat:
		return 7
	case api.OpNeg, api.OpPlus:
		return 8
	case api.OpCollate:
		return 9
	case api.OpExists:
		if e.Not {
			return 2
		}
	}
	return 10
}

// byWords has brackets where the chapter's words on printed texts have them.
func byWords(e api.Expr, _ int) bool {
	if e.Op == api.OpExists && e.Not {
		return true
	}
	return e.Op >= api.OpNeg && e.Op <= api.OpIn || e.Op == api.OpCollate
}

// byLevels has them only where the levels ask for them.
func byLevels(e api.Expr, wanted int) bool { return level(e) < wanted }

func first(ways ...string) string { return ways[0] }

func printed() *speller { return &speller{glue: "~", brackets: byWords, choose: first} }

// spelt joins words as they are printed.
func spelt(words []string) string {
	s, blank := "", ""
	for _, w := range words {
		if w == "~" {
			blank = ""
			continue
		}
		s += blank + w
		blank = " "
	}
	return s
}

func (w *speller) in(e api.Expr, wanted int) []string {
	if w.brackets(e, wanted) {
		return w.around(w.expr(e))
	}
	return w.expr(e)
}

func (w *speller) around(l []string) []string {
	return append(append([]string{"(", w.glue}, l...), w.glue, ")")
}

func (w *speller) list(n int, each func(i int) []string) []string {
	var l []string
	for i := range n {
		if i > 0 {
			l = append(l, w.glue, ",")
		}
		l = append(l, each(i)...)
	}
	return l
}

func (w *speller) exprs(l []api.Expr) []string {
	return w.list(len(l), func(i int) []string { return w.expr(l[i]) })
}

func words(l ...any) []string {
	var out []string
	for _, x := range l {
		switch x := x.(type) {
		case string:
			if x != "" {
				out = append(out, strings.Fields(x)...)
			}
		case []string:
			out = append(out, x...)
		}
	}
	return out
}

// literal is one word, whatever blanks it has.
func literal(v api.Value) []string {
	switch v.Kind {
	case api.KindInt:
		return []string{strconv.FormatInt(v.Int, 10)}
	case api.KindText:
		return []string{"'" + strings.ReplaceAll(v.Text, "'", "''") + "'"}
	case api.KindBlob:
		s := "x'"
		for _, b := range []byte(v.Text) {
			s += string("0123456789abcdef"[b>>4]) + string("0123456789abcdef"[b&15])
		}
		return []string{s + "'"}
	}
	return []string{"NULL"}
}

func (w *speller) not(e api.Expr) string {
	if e.Not {
		return "NOT"
	}
	return ""
}

// two is the sign of an operator with two parts, and its level is that of its first part; its second one's is one more.
func (w *speller) two(o api.Op) string {
	switch o {
	case api.OpEq:
		return w.choose("=", "==")
	case api.OpNe:
		return w.choose("<>", "!=")
	}
	return map[api.Op]string{api.OpAdd: "+", api.OpSub: "-", api.OpMul: "*", api.OpDiv: "/", api.OpRem: "%", api.OpConcat: "||", api.OpLt: "<", api.OpLe: "<=", api.OpGt: ">", api.OpGe: ">=", api.OpIs: "IS", api.OpIsNot: "IS NOT", api.OpAnd: "AND", api.OpOr: "OR", api.OpLike: "LIKE", api.OpGlob: "GLOB"}[o]
}

func (w *speller) expr(e api.Expr) []string {
	g, at := w.glue, level(e)
	arg := func(i, wanted int) []string {
		if i >= len(e.Args) {
			return nil
		}
		return w.in(e.Args[i], wanted)
	}
	switch e.Op {
	case api.OpLit:
		return literal(e.V)
	case api.OpCol:
		if e.Table != "" {
			return []string{e.Table, g, ".", g, e.Name}
		}
		return []string{e.Name}
	case api.OpParam:
		return []string{"?" + strconv.Itoa(e.N)}
	case api.OpNeg:
		return words("-", g, arg(0, at))
	case api.OpPlus:
		return words("+", g, arg(0, at))
	case api.OpNot:
		part := arg(0, at)
		if len(part) > 0 && part[0] == "EXISTS" {
			part = w.around(part) // EXISTS right behind NOT is one with it
		}
		return words("NOT", part)
	case api.OpBetween:
		return words(arg(0, at), w.not(e), "BETWEEN", arg(1, at+1), "AND", arg(2, at+1))
	case api.OpIn:
		if len(e.Sub) > 0 || len(e.Args) == 0 {
			return words(arg(0, at), w.not(e), "IN", w.subs(e.Sub))
		}
		return words(arg(0, at), w.not(e), "IN", w.around(w.closed(w.exprs(e.Args[1:]))))
	case api.OpExists:
		return words(w.not(e), "EXISTS", w.subs(e.Sub))
	case api.OpScalar:
		return w.subs(e.Sub)
	case api.OpCase:
		return w.caseOf(e)
	case api.OpCast:
		return words("CAST", g, w.around(words(w.exprs(e.Args), "AS", e.Name)))
	case api.OpCollate:
		return words(arg(0, at), "COLLATE", e.Name)
	case api.OpCall:
		switch e.N {
		case 1:
			return words(e.Name, g, w.around(words("DISTINCT", w.exprs(e.Args))))
		case 2:
			return words(e.Name, g, w.around([]string{"*"}))
		}
		return words(e.Name, g, w.around(w.closed(w.exprs(e.Args))))
	}
	return words(arg(0, at), w.not(e), w.two(e.Op), arg(1, at+1))
}

// closed keeps two brackets with nothing between them together.
func (w *speller) closed(l []string) []string {
	if l == nil {
		return []string{w.glue}
	}
	return l
}

func (w *speller) caseOf(e api.Expr) []string {
	l, args := []string{"CASE"}, e.Args
	if e.N&1 != 0 && len(args) > 0 {
		l, args = words(l, w.expr(args[0])), args[1:]
	}
	for ; len(args) > 1; args = args[2:] {
		l = words(l, "WHEN", w.expr(args[0]), "THEN", w.expr(args[1]))
	}
	if len(args) > 0 {
		l = words(l, "ELSE", w.expr(args[0]))
	}
	return words(l, "END")
}

func (w *speller) subs(l []api.Select) []string {
	if len(l) == 0 {
		return nil
	}
	return w.around(w.sel(l[0]))
}

func (w *speller) clause(word string, l []api.Expr) []string {
	if len(l) == 0 {
		return nil
	}
	return words(word, w.exprs(l))
}

func (w *speller) as(name string) []string {
	if name == "" {
		return nil
	}
	return words(w.choose("AS", ""), name)
}

func (w *speller) sel(s api.Select) []string {
	var l []string
	if len(s.With) > 0 {
		l = words("WITH", w.choose("", "RECURSIVE"), w.list(len(s.With), func(i int) []string {
			t := s.With[i]
			cols := []string(nil)
			if len(t.Cols) > 0 {
				cols = words(w.glue, w.around(w.list(len(t.Cols), func(i int) []string { return t.Cols[i : i+1] })))
			}
			return words(t.Name, cols, "AS", w.subs(t.Body))
		}))
	}
	for _, p := range s.Parts {
		l = words(l, map[api.Compound]string{api.CompUnion: "UNION", api.CompAll: "UNION ALL", api.CompIntersect: "INTERSECT", api.CompExcept: "EXCEPT"}[p.Comp], w.part(p))
	}
	if len(s.Order) > 0 {
		l = words(l, "ORDER BY", w.list(len(s.Order), func(i int) []string {
			if s.Order[i].Desc {
				return words(w.expr(s.Order[i].Expr), "DESC")
			}
			return words(w.expr(s.Order[i].Expr), w.choose("", "ASC"))
		}))
	}
	return words(l, w.clause("LIMIT", s.Limit), w.clause("OFFSET", s.Offset))
}

func (w *speller) part(p api.Part) []string {
	if len(p.Values) > 0 {
		return words("VALUES", w.list(len(p.Values), func(i int) []string { return w.around(w.exprs(p.Values[i])) }))
	}
	distinct := w.choose("", "ALL")
	if p.Distinct {
		distinct = "DISTINCT"
	}
	l := words("SELECT", distinct, w.list(len(p.Items), func(i int) []string {
		switch t := p.Items[i]; {
		case t.Star && t.Table != "":
			return []string{t.Table, w.glue, ".", w.glue, "*"}
		case t.Star:
			return []string{"*"}
		default:
			return words(w.exprs(t.Expr), w.as(t.As))
		}
	}))
	for i, f := range p.From {
		join := "FROM"
		if i > 0 {
			join = w.choose("JOIN", ",", "INNER JOIN", "CROSS JOIN")
			if f.Join == api.JoinLeft {
				join = w.choose("LEFT JOIN", "LEFT OUTER JOIN")
			}
		}
		l = words(l, join, f.Name, w.subs(f.Sub), w.as(f.As), w.clause("ON", f.On))
	}
	return words(l, w.clause("WHERE", p.Where), w.clause("GROUP BY", p.Group), w.clause("HAVING", p.Having))
}
