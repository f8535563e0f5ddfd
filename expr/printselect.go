package expr

import (
	"bureau/api"
)

// PrintSelect tells a select's text.
func PrintSelect(s api.Select) (string, api.Errno) {
	if no := CheckSelect(s); no != api.OK {
		return "", no
	}
	return selectText(s), api.OK
}

func selectText(s api.Select) string {
	t := ""
	if len(s.With) > 0 {
		t = "WITH " + commas(s.With, tableText) + " "
	}
	t += joined(s.Parts, " ", partText)
	if len(s.Order) > 0 {
		t += " ORDER BY " + commas(s.Order, termText)
	}
	return t + clause(" LIMIT ", s.Limit) + clause(" OFFSET ", s.Offset)
}

// clause is a word and the expressions behind it, if there are some.
func clause(word string, l []api.Expr) string {
	if len(l) == 0 {
		return ""
	}
	return word + commas(l, exprText)
}

func tableText(t api.Cte) string {
	s := t.Name
	if len(t.Cols) > 0 {
		s += "(" + commas(t.Cols, func(c string) string { return c }) + ")"
	}
	return s + " AS (" + selectText(t.Body[0]) + ")"
}

// compoundText is what stands ahead of a part.
func compoundText(c api.Compound) string {
	switch c {
	case api.CompUnion:
		return "UNION "
	case api.CompAll:
		return "UNION ALL "
	case api.CompIntersect:
		return "INTERSECT "
	case api.CompExcept:
		return "EXCEPT "
	}
	return ""
}

func termText(t api.Sort) string {
	s := exprText(t.Expr)
	if t.Desc {
		s += " DESC"
	}
	return s
}

func partText(p api.Part) string {
	s := compoundText(p.Comp)
	if len(p.Values) > 0 {
		return s + "VALUES " + commas(p.Values, rowText)
	}
	s += "SELECT "
	if p.Distinct {
		s += "DISTINCT "
	}
	s += commas(p.Items, itemText) + fromText(p.From)
	return s + clause(" WHERE ", p.Where) + clause(" GROUP BY ", p.Group) + clause(" HAVING ", p.Having)
}

func rowText(row []api.Expr) string {
	return "(" + commas(row, exprText) + ")"
}

func itemText(i api.Item) string {
	switch {
	case i.Table != "":
		return i.Table + ".*"
	case i.Star:
		return "*"
	}
	return exprText(i.Expr[0]) + as(i.As)
}

func as(name string) string {
	if name == "" {
		return ""
	}
	return " AS " + name
}

func fromText(l []api.Source) string {
	if len(l) == 0 {
		return ""
	}
	return " FROM " + sourceText(l[0]) + joined(l[1:], "", joinText)
}

func joinText(f api.Source) string {
	if f.Join == api.JoinLeft {
		return " LEFT JOIN " + sourceText(f)
	}
	return " JOIN " + sourceText(f)
}

func sourceText(f api.Source) string {
	s := f.Name
	if len(f.Sub) > 0 {
		s = "(" + selectText(f.Sub[0]) + ")"
	}
	return s + as(f.As) + clause(" ON ", f.On)
}
