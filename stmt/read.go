package stmt

import (
	"strings"

	"bureau/api"
	"bureau/cursor"
)

// beginning is a first word, and what reads the statements that begin with it.
type beginning struct {
	word string
	read func(*reader) api.Stmt
}

func beginnings() []beginning {
	return []beginning{
		{"SELECT", (*reader).selects},
		{"VALUES", (*reader).selects},
		{"WITH", (*reader).selects},
		{"INSERT", (*reader).insert},
		{"REPLACE", (*reader).replace},
		{"UPDATE", (*reader).update},
		{"DELETE", (*reader).delete},
		{"CREATE", (*reader).create},
		{"DROP", (*reader).drop},
		{"ALTER", (*reader).alter},
		{"BEGIN", (*reader).begin},
		{"COMMIT", (*reader).commit},
		{"END", (*reader).commit},
		{"ROLLBACK", (*reader).rollback},
		{"SAVEPOINT", (*reader).savepoint},
		{"RELEASE", (*reader).release},
	}
}

// whole reads a statement, the signs behind it, and nothing more.
func (r *reader) whole() api.Stmt {
	s := r.stmt()
	for r.Takes(";") {
	}
	if r.At < len(r.Tokens) {
		r.Fail()
	}
	return s
}

func (r *reader) stmt() api.Stmt {
	for _, b := range beginnings() {
		if r.Now == b.word {
			return b.read(r)
		}
	}
	r.Fail()
	return api.Stmt{}
}

func (r *reader) selects() api.Stmt {
	return api.Stmt{Kind: api.StmtSelect, Select: r.sel()}
}

func (r *reader) insert() api.Stmt {
	r.Want("INSERT")
	return r.into(r.conflict())
}

func (r *reader) replace() api.Stmt {
	r.Want("REPLACE")
	return r.into(api.ConfReplace)
}

func (r *reader) into(or api.Conflict) api.Stmt {
	r.Want("INTO")
	return api.Stmt{Kind: api.StmtInsert, Or: or, Name: r.Name(), Cols: r.Names(), Select: r.sel()}
}

func (r *reader) conflict() api.Conflict {
	if !r.Takes("OR") {
		return api.ConfAbort
	}
	switch word, _ := r.oneOf("ABORT", "IGNORE", "REPLACE"); word {
	case "ABORT":
		return api.ConfAbort
	case "IGNORE":
		return api.ConfIgnore
	case "REPLACE":
		return api.ConfReplace
	}
	r.Fail()
	return 0
}

func (r *reader) update() api.Stmt {
	r.Want("UPDATE")
	s := api.Stmt{Kind: api.StmtUpdate, Or: r.conflict(), Name: r.Name()}
	r.Want("SET")
	s.Sets = cursor.List(&r.Cursor, r.set)
	s.Where = r.where()
	return s
}

func (r *reader) set() *api.Set {
	s := &api.Set{Name: r.Name()}
	r.Want("=")
	s.Expr = r.expr()[0]
	return s
}

func (r *reader) delete() api.Stmt {
	r.Want("DELETE", "FROM")
	return api.Stmt{Kind: api.StmtDelete, Name: r.Name(), Where: r.where()}
}

func (r *reader) create() api.Stmt {
	r.Want("CREATE")
	if r.Takes("UNIQUE") {
		s := r.index()
		s.Unique = true
		return s
	}
	switch r.Now {
	case "TABLE":
		return r.table()
	case "VIEW":
		return r.view()
	}
	return r.index()
}

func (r *reader) table() api.Stmt {
	r.Want("TABLE")
	s := api.Stmt{Kind: api.StmtTable, If: r.ifs("NOT", "EXISTS"), Name: r.Name()}
	s.Defs = cursor.InBrackets(&r.Cursor, r.column)
	return s
}

func (r *reader) index() api.Stmt {
	r.Want("INDEX")
	s := api.Stmt{Kind: api.StmtIndex, If: r.ifs("NOT", "EXISTS"), Name: r.Name()}
	r.Want("ON")
	s.Table = r.Name()
	s.Keys = cursor.InBrackets(&r.Cursor, r.key)
	return s
}

func (r *reader) view() api.Stmt {
	r.Want("VIEW")
	s := api.Stmt{Kind: api.StmtView, If: r.ifs("NOT", "EXISTS"), Name: r.Name(), Cols: r.Names()}
	r.Want("AS")
	s.Select = r.query()
	return s
}

func (r *reader) drop() api.Stmt {
	r.Want("DROP")
	word, is := r.oneOf("TABLE", "INDEX", "VIEW")
	if !is {
		r.Fail()
	}
	return api.Stmt{Kind: api.StmtDrop, What: strings.ToLower(word), If: r.ifs("EXISTS"), Name: r.Name()}
}

func (r *reader) alter() api.Stmt {
	r.Want("ALTER", "TABLE")
	s := api.Stmt{Name: r.Name()}
	if r.Takes("ADD") {
		r.Takes("COLUMN")
		s.Kind = api.StmtAddCol
		s.Defs = []api.ColDef{*r.column()}
		return s
	}
	r.Want("RENAME")
	s.Kind = api.StmtRename
	if r.Now != "TO" {
		r.Takes("COLUMN")
		s.Kind = api.StmtRenameCol
		s.Cols = []string{r.Name()}
	}
	r.Want("TO")
	s.To = r.Name()
	return s
}

func (r *reader) begin() api.Stmt {
	r.Want("BEGIN")
	word, is := r.oneOf("DEFERRED", "IMMEDIATE", "EXCLUSIVE")
	if !is {
		word = "DEFERRED"
	}
	r.Takes("TRANSACTION")
	return api.Stmt{Kind: api.StmtBegin, What: strings.ToLower(word)}
}

func (r *reader) commit() api.Stmt {
	r.oneOf("COMMIT", "END")
	r.Takes("TRANSACTION")
	return api.Stmt{Kind: api.StmtCommit}
}

func (r *reader) rollback() api.Stmt {
	r.Want("ROLLBACK")
	r.Takes("TRANSACTION")
	if !r.Takes("TO") {
		return api.Stmt{Kind: api.StmtRollback}
	}
	r.Takes("SAVEPOINT")
	return api.Stmt{Kind: api.StmtRollTo, Name: r.Name()}
}

func (r *reader) savepoint() api.Stmt {
	r.Want("SAVEPOINT")
	return api.Stmt{Kind: api.StmtSavepoint, Name: r.Name()}
}

func (r *reader) release() api.Stmt {
	r.Want("RELEASE")
	r.Takes("SAVEPOINT")
	return api.Stmt{Kind: api.StmtRelease, Name: r.Name()}
}
