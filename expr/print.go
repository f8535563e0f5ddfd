package expr

import (
	"strconv"
	"strings"

	"bureau/api"
	"bureau/value"
)

// Print tells an expression's text.
func Print(e api.Expr) (string, api.Errno) {
	if no := Check(e); no != api.OK {
		return "", no
	}
	return exprText(e), api.OK
}

func exprText(e api.Expr) string {
	switch e.Op {
	case api.OpLit:
		s, _ := value.Print(e.V)
		return s
	case api.OpCol:
		return columnText(e)
	case api.OpParam:
		return "?" + strconv.Itoa(e.N)
	case api.OpNeg:
		return "-" + operand(e.Args[0])
	case api.OpPlus:
		return "+" + operand(e.Args[0])
	case api.OpNot:
		return notText(e.Args[0])
	case api.OpBetween:
		return operand(e.Args[0]) + not(e) + " BETWEEN " + operand(e.Args[1]) + " AND " + operand(e.Args[2])
	case api.OpIn:
		return operand(e.Args[0]) + not(e) + " IN (" + inText(e) + ")"
	case api.OpExists:
		return strings.TrimPrefix(not(e)+" EXISTS (", " ") + selectText(e.Sub[0]) + ")"
	case api.OpScalar:
		return "(" + selectText(e.Sub[0]) + ")"
	case api.OpCase:
		return caseText(e)
	case api.OpCast:
		return "CAST(" + exprText(e.Args[0]) + " AS " + e.Name + ")"
	case api.OpCollate:
		return operand(e.Args[0]) + " COLLATE " + e.Name
	case api.OpCall:
		return e.Name + "(" + callText(e) + ")"
	}
	return operand(e.Args[0]) + not(e) + " " + sign(e.Op) + " " + operand(e.Args[1])
}

// sign is what stands between an operator's two parts.
func sign(op api.Op) string {
	switch op {
	case api.OpAdd:
		return "+"
	case api.OpSub:
		return "-"
	case api.OpMul:
		return "*"
	case api.OpDiv:
		return "/"
	case api.OpRem:
		return "%"
	case api.OpConcat:
		return "||"
	case api.OpEq:
		return "="
	case api.OpNe:
		return "<>"
	case api.OpLt:
		return "<"
	case api.OpLe:
		return "<="
	case api.OpGt:
		return ">"
	case api.OpGe:
		return ">="
	case api.OpIs:
		return "IS"
	case api.OpIsNot:
		return "IS NOT"
	case api.OpAnd:
		return "AND"
	case api.OpOr:
		return "OR"
	case api.OpLike:
		return "LIKE"
	case api.OpGlob:
		return "GLOB"
	}
	return ""
}

// operand is the text of an operator's part, in brackets if it is an operator itself.
func operand(e api.Expr) string {
	switch e.Op {
	case api.OpLit, api.OpCol, api.OpParam, api.OpScalar, api.OpCase, api.OpCast, api.OpCall:
		return exprText(e)
	case api.OpExists:
		if !e.Not {
			return exprText(e)
		}
	}
	return "(" + exprText(e) + ")"
}

// notText keeps EXISTS from standing right behind NOT, where the two are one.
func notText(e api.Expr) string {
	if e.Op == api.OpExists {
		return "NOT (" + exprText(e) + ")"
	}
	return "NOT " + operand(e)
}

func not(e api.Expr) string {
	if e.Not {
		return " NOT"
	}
	return ""
}

func columnText(e api.Expr) string {
	if e.Table == "" {
		return e.Name
	}
	return e.Table + "." + e.Name
}

func inText(e api.Expr) string {
	if len(e.Sub) > 0 {
		return selectText(e.Sub[0])
	}
	return commas(e.Args[1:], exprText)
}

func caseText(e api.Expr) string {
	words := []string{"CASE"}
	l := e.Args
	if e.N&caseBase != 0 {
		words = append(words, exprText(l[0]))
		l = l[1:]
	}
	for ; len(l) > 1; l = l[2:] {
		words = append(words, "WHEN", exprText(l[0]), "THEN", exprText(l[1]))
	}
	for _, other := range l {
		words = append(words, "ELSE", exprText(other))
	}
	return strings.Join(append(words, "END"), " ")
}

func callText(e api.Expr) string {
	switch e.N {
	case callStar:
		return "*"
	case callDistinct:
		return "DISTINCT " + exprText(e.Args[0])
	}
	return commas(e.Args, exprText)
}

func commas[T any](l []T, text func(T) string) string {
	return joined(l, ", ", text)
}

func joined[T any](l []T, between string, text func(T) string) string {
	var texts []string
	for _, x := range l {
		texts = append(texts, text(x))
	}
	return strings.Join(texts, between)
}
