package stmt

import (
	"slices"

	"bureau/api"
	"bureau/expr"
	"bureau/token"
)

// The parts of a statement.
const (
	partWhat = 1 << iota
	partIf
	partUnique
	partOr
	partName
	partTable
	partTo
	partCols
	partDefs
	partKeys
	partSets
	partWhere
	partSelect
)

// Check tells whether a text has that statement as its tree.
func Check(s api.Stmt) api.Errno {
	switch {
	case isDeep(s):
		return api.ErrDeep
	case !mayBe(s):
		return api.ErrTree
	}
	return api.OK
}

func isDeep(s api.Stmt) bool {
	for e := range exprs(s) {
		if expr.Depth(*e) > api.MaxDepth {
			return true
		}
	}
	for _, q := range s.Select {
		if expr.DepthSelect(q) > api.MaxDepth {
			return true
		}
	}
	return false
}

func mayBe(s api.Stmt) bool {
	must, may, is := parts(s.Kind)
	has := partsOf(s)
	return is && has&must == must && has&^(must|may) == 0 && partsMayBe(s) && kindMayBe(s)
}

// parts tells the parts that statements of a kind must have, and those that they may have beside them.
func parts(kind api.StmtKind) (must, may int, is bool) {
	switch kind {
	case api.StmtSelect:
		return partSelect, 0, true
	case api.StmtInsert:
		return partName | partSelect, partOr | partCols, true
	case api.StmtUpdate:
		return partName | partSets, partOr | partWhere, true
	case api.StmtDelete:
		return partName, partWhere, true
	case api.StmtTable:
		return partName | partDefs, partIf, true
	case api.StmtIndex:
		return partName | partTable | partKeys, partIf | partUnique, true
	case api.StmtView:
		return partName | partSelect, partIf | partCols, true
	case api.StmtDrop:
		return partWhat | partName, partIf, true
	case api.StmtRename:
		return partName | partTo, 0, true
	case api.StmtRenameCol:
		return partName | partCols | partTo, 0, true
	case api.StmtAddCol:
		return partName | partDefs, 0, true
	case api.StmtBegin:
		return partWhat, 0, true
	case api.StmtCommit, api.StmtRollback:
		return 0, 0, true
	case api.StmtSavepoint, api.StmtRelease, api.StmtRollTo:
		return partName, 0, true
	}
	return 0, 0, false
}

// partsOf tells the parts that are not zero.
func partsOf(s api.Stmt) int {
	of := 0
	for i, is := range []bool{ // in the order of the parts' bits
		s.What != "", s.If, s.Unique, s.Or != 0, s.Name != "", s.Table != "", s.To != "",
		len(s.Cols) > 0, len(s.Defs) > 0, len(s.Keys) > 0, len(s.Sets) > 0, len(s.Where) > 0, len(s.Select) > 0,
	} {
		if is {
			of |= 1 << i
		}
	}
	return of
}

// partsMayBe looks at the parts that a statement has, whatever its kind is.
func partsMayBe(s api.Stmt) bool {
	for e := range exprs(s) {
		if expr.Check(*e) != api.OK {
			return false
		}
	}
	return s.Or >= api.ConfAbort && s.Or <= api.ConfReplace && isNew(s.Name) && isNew(s.Table) && isNew(s.To) &&
		all(s.Cols, token.Name) && all(s.Defs, defMayBe) && all(s.Keys, keyMayBe) && all(s.Sets, setMayBe) &&
		len(s.Where) <= 1 && len(s.Select) <= 1 && all(s.Select, selectMayBe)
}

// kindMayBe asks what statements of one kind alone must be like.
func kindMayBe(s api.Stmt) bool {
	switch s.Kind {
	case api.StmtView:
		return len(s.Select[0].With) == 0
	case api.StmtDrop:
		return slices.Contains([]string{"table", "index", "view"}, s.What)
	case api.StmtRenameCol:
		return len(s.Cols) == 1
	case api.StmtAddCol:
		return len(s.Defs) == 1
	case api.StmtBegin:
		return slices.Contains([]string{"deferred", "immediate", "exclusive"}, s.What)
	}
	return true
}

func all[T any](l []T, mayBe func(T) bool) bool {
	for _, x := range l {
		if !mayBe(x) {
			return false
		}
	}
	return true
}

// isNew says that a text is a name, or that none is told.
func isNew(name string) bool {
	return name == "" || token.Name(name)
}

func selectMayBe(q api.Select) bool {
	return expr.CheckSelect(q) == api.OK
}

func setMayBe(s api.Set) bool {
	return token.Name(s.Name)
}

func defMayBe(d api.ColDef) bool {
	return token.Name(d.Name) && slices.Contains([]string{"", "INTEGER", "TEXT", "BLOB"}, d.Type) && isColl(d.Coll) &&
		len(d.Default) <= 1 && all(d.Default, isConstant) && len(d.Check) <= 1
}

func isColl(c api.Coll) bool {
	return c >= api.CollBinary && c <= api.CollRTrim
}

// isConstant says of an expression that may be, that it is a literal, or - and an integer.
func isConstant(e api.Expr) bool {
	if e.Op == api.OpNeg {
		return e.Args[0].Op == api.OpLit && e.Args[0].V.Kind == api.KindInt
	}
	return e.Op == api.OpLit
}

func keyMayBe(k api.IndexCol) bool {
	return token.Name(k.Name) && isColl(k.Coll) && (k.Own || k.Coll == api.CollBinary)
}
