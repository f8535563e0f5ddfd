package token

import "bureau/api"

// Keyword tells the keyword in capital letters, if the word is one in any case.
func Keyword(word string) (string, bool) {
	b := []byte(word)
	for i := range b {
		b[i] = capital(b[i])
	}
	if !isKeyword(string(b)) {
		return "", false
	}
	return string(b), true
}

// Name tells whether a word can name something.
func Name(word string) bool {
	_, is := Keyword(word)
	return !is && len(word) <= api.MaxName && mayBe(api.TokWord)(word)
}

// isKeyword takes keywords in capital letters alone.
func isKeyword(word string) bool {
	switch word {
	case "ABORT", "ADD", "ALL", "ALTER", "AND", "AS", "ASC",
		"BEGIN", "BETWEEN", "BY",
		"CASE", "CAST", "CHECK", "COLLATE", "COLUMN", "COMMIT", "CREATE", "CROSS",
		"DEFAULT", "DEFERRED", "DELETE", "DESC", "DISTINCT", "DROP",
		"ELSE", "END", "EXCEPT", "EXCLUSIVE", "EXISTS",
		"FROM",
		"GLOB", "GROUP",
		"HAVING",
		"IF", "IGNORE", "IMMEDIATE", "IN", "INDEX", "INNER", "INSERT", "INTERSECT", "INTO", "IS",
		"JOIN",
		"KEY",
		"LEFT", "LIKE", "LIMIT",
		"NOT", "NULL",
		"OFFSET", "ON", "OR", "ORDER", "OUTER",
		"PRIMARY",
		"RECURSIVE", "RELEASE", "RENAME", "REPLACE", "ROLLBACK",
		"SAVEPOINT", "SELECT", "SET",
		"TABLE", "THEN", "TO", "TRANSACTION",
		"UNION", "UNIQUE", "UPDATE", "USING",
		"VALUES", "VIEW",
		"WHEN", "WHERE", "WITH":
		return true
	}
	return false
}
