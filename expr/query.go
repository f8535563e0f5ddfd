package expr

import (
	"bureau/api"
	"bureau/cursor"
)

// whole reads a select with the tables of its WITH.
func (r *reader) whole() *api.Select {
	var tables []api.Cte
	if r.Takes("WITH") {
		r.Takes("RECURSIVE")
		tables = cursor.List(&r.Cursor, r.table)
	}
	s := r.query()
	s.With = tables
	return s
}

func (r *reader) table() *api.Cte {
	t := &api.Cte{Name: r.Name(), Cols: r.Names()}
	r.Want("AS")
	t.Body = []api.Select{*r.ownQuery()}
	return t
}

func (r *reader) atQuery() bool {
	return r.Now == "SELECT" || r.Now == "VALUES"
}

// ownQuery reads a query in brackets.
func (r *reader) ownQuery() *api.Select {
	r.Want("(")
	s := r.query()
	r.Want(")")
	return s
}

func (r *reader) query() *api.Select {
	s := &api.Select{Parts: []api.Part{*r.part()}}
	for comp := r.compound(); comp != api.CompFirst; comp = r.compound() {
		p := r.part()
		p.Comp = comp
		s.Parts = append(s.Parts, *p)
	}
	if r.Takes("ORDER") {
		r.Want("BY")
		s.Order = cursor.List(&r.Cursor, r.term)
	}
	s.Limit = r.maybe("LIMIT")
	if s.Limit != nil {
		s.Offset = r.maybe("OFFSET")
	}
	return s
}

// compound takes what stands between two parts, if a further part follows.
func (r *reader) compound() api.Compound {
	switch r.Now {
	case "UNION":
		r.Step()
		if r.Takes("ALL") {
			return api.CompAll
		}
		return api.CompUnion
	case "INTERSECT":
		r.Step()
		return api.CompIntersect
	case "EXCEPT":
		r.Step()
		return api.CompExcept
	}
	return api.CompFirst
}

func (r *reader) term() *api.Sort {
	t := &api.Sort{Expr: *r.or()}
	switch r.Now {
	case "DESC":
		t.Desc = true
		r.Step()
	case "ASC":
		r.Step()
	}
	return t
}

func (r *reader) part() *api.Part {
	if r.Takes("VALUES") {
		return &api.Part{Values: r.rows()}
	}
	r.Want("SELECT")
	p := &api.Part{Distinct: r.Takes("DISTINCT")}
	if !p.Distinct {
		r.Takes("ALL")
	}
	p.Items = cursor.List(&r.Cursor, r.item)
	if r.Takes("FROM") {
		p.From = r.sources()
	}
	p.Where = r.maybe("WHERE")
	if r.Takes("GROUP") {
		r.Want("BY")
		p.Group = cursor.List(&r.Cursor, r.or)
		p.Having = r.maybe("HAVING")
	}
	return p
}

// rows reads the rows of VALUES, all as long as the first one.
func (r *reader) rows() [][]api.Expr {
	l := [][]api.Expr{cursor.InBrackets(&r.Cursor, r.or)}
	for r.Takes(",") {
		l = append(l, r.nextRow(len(l[0])))
	}
	return l
}

func (r *reader) nextRow(size int) []api.Expr {
	r.Want("(")
	row := []api.Expr{*r.or()}
	for len(row) < size {
		r.Want(",")
		row = append(row, *r.or())
	}
	r.Want(")")
	return row
}

func (r *reader) item() *api.Item {
	switch {
	case r.Takes("*"):
		return &api.Item{Star: true}
	case r.AtName() && r.Mark(r.At+1) == "." && r.Mark(r.At+2) == "*":
		table := r.Name()
		r.Want(".", "*")
		return &api.Item{Star: true, Table: table}
	}
	i := &api.Item{Expr: []api.Expr{*r.or()}}
	i.As = r.alias()
	return i
}

func (r *reader) sources() []api.Source {
	l := []api.Source{*r.source()}
	for {
		join, is := r.join()
		if !is {
			return l
		}
		s := r.source()
		s.Join = join
		s.On = r.maybe("ON")
		l = append(l, *s)
	}
}

// join takes what stands between two sources, if a further source follows.
func (r *reader) join() (api.Join, bool) {
	switch r.Now {
	case ",", "JOIN":
		r.Step()
		return api.JoinInner, true
	case "INNER", "CROSS":
		r.Step()
		r.Want("JOIN")
		return api.JoinInner, true
	case "LEFT":
		r.Step()
		r.Takes("OUTER")
		r.Want("JOIN")
		return api.JoinLeft, true
	}
	return api.JoinInner, false
}

func (r *reader) source() *api.Source {
	s := &api.Source{}
	if r.Now == "(" {
		s.Sub = []api.Select{*r.ownQuery()}
	} else {
		s.Name = r.Name()
	}
	s.As = r.alias()
	return s
}
