package expr

import "bureau/api"

// whole reads a select with the tables of its WITH.
func (r *reader) whole() *api.Select {
	var tables []api.Cte
	if r.takes("WITH") {
		r.takes("RECURSIVE")
		tables = list(r, r.table)
	}
	s := r.query()
	s.With = tables
	return s
}

func (r *reader) table() *api.Cte {
	t := &api.Cte{Name: r.name()}
	if r.takes("(") {
		t.Cols = list(r, r.column)
		r.want(")")
	}
	r.want("AS")
	t.Body = []api.Select{*r.ownQuery()}
	return t
}

func (r *reader) column() *string {
	name := r.name()
	return &name
}

func (r *reader) atQuery() bool {
	return r.now == "SELECT" || r.now == "VALUES"
}

// ownQuery reads a query in brackets.
func (r *reader) ownQuery() *api.Select {
	r.want("(")
	s := r.query()
	r.want(")")
	return s
}

func (r *reader) query() *api.Select {
	s := &api.Select{Parts: []api.Part{*r.part()}}
	for comp := r.compound(); comp != api.CompFirst; comp = r.compound() {
		p := r.part()
		p.Comp = comp
		s.Parts = append(s.Parts, *p)
	}
	if r.takes("ORDER") {
		r.want("BY")
		s.Order = list(r, r.term)
	}
	s.Limit = r.maybe("LIMIT")
	if s.Limit != nil {
		s.Offset = r.maybe("OFFSET")
	}
	return s
}

// compound takes what stands between two parts, if a further part follows.
func (r *reader) compound() api.Compound {
	switch r.now {
	case "UNION":
		r.step()
		if r.takes("ALL") {
			return api.CompAll
		}
		return api.CompUnion
	case "INTERSECT":
		r.step()
		return api.CompIntersect
	case "EXCEPT":
		r.step()
		return api.CompExcept
	}
	return api.CompFirst
}

func (r *reader) term() *api.Sort {
	t := &api.Sort{Expr: *r.or()}
	switch r.now {
	case "DESC":
		t.Desc = true
		r.step()
	case "ASC":
		r.step()
	}
	return t
}

func (r *reader) part() *api.Part {
	if r.takes("VALUES") {
		return &api.Part{Values: r.rows()}
	}
	r.want("SELECT")
	p := &api.Part{Distinct: r.takes("DISTINCT")}
	if !p.Distinct {
		r.takes("ALL")
	}
	p.Items = list(r, r.item)
	if r.takes("FROM") {
		p.From = r.sources()
	}
	p.Where = r.maybe("WHERE")
	if r.takes("GROUP") {
		r.want("BY")
		p.Group = list(r, r.or)
		p.Having = r.maybe("HAVING")
	}
	return p
}

// rows reads the rows of VALUES, all as long as the first one.
func (r *reader) rows() [][]api.Expr {
	l := [][]api.Expr{r.firstRow()}
	for r.takes(",") {
		l = append(l, r.nextRow(len(l[0])))
	}
	return l
}

func (r *reader) firstRow() []api.Expr {
	r.want("(")
	row := list(r, r.or)
	r.want(")")
	return row
}

func (r *reader) nextRow(size int) []api.Expr {
	r.want("(")
	row := []api.Expr{*r.or()}
	for len(row) < size {
		r.want(",")
		row = append(row, *r.or())
	}
	r.want(")")
	return row
}

func (r *reader) item() *api.Item {
	switch {
	case r.takes("*"):
		return &api.Item{Star: true}
	case r.atName() && r.mark(r.at+1) == "." && r.mark(r.at+2) == "*":
		table := r.name()
		r.want(".")
		r.want("*")
		return &api.Item{Star: true, Table: table}
	}
	i := &api.Item{Expr: []api.Expr{*r.or()}}
	i.As = r.alias()
	return i
}

func (r *reader) sources() []api.Source {
	l := []api.Source{*r.source()}
	for {
		join, is := r.join()
		if !is {
			return l
		}
		s := r.source()
		s.Join = join
		s.On = r.maybe("ON")
		l = append(l, *s)
	}
}

// join takes what stands between two sources, if a further source follows.
func (r *reader) join() (api.Join, bool) {
	switch r.now {
	case ",", "JOIN":
		r.step()
		return api.JoinInner, true
	case "INNER", "CROSS":
		r.step()
		r.want("JOIN")
		return api.JoinInner, true
	case "LEFT":
		r.step()
		r.takes("OUTER")
		r.want("JOIN")
		return api.JoinLeft, true
	}
	return api.JoinInner, false
}

func (r *reader) source() *api.Source {
	s := &api.Source{}
	if r.now == "(" {
		s.Sub = []api.Select{*r.ownQuery()}
	} else {
		s.Name = r.name()
	}
	s.As = r.alias()
	return s
}
