package stmt_test

import (
	"math/rand"
	"slices"
	"strconv"
	"strings"
	"testing"

	"bureau/api"
	"bureau/stmt"
	"bureau/token"
)

// The chapter's texts as rules of a grammar: words in small letters are rules or classes of tokens, [x] is once or not at all.
const statements = `
whole = body | whole ;
body = select | INSERT [conflict] INTO name [list] select | REPLACE INTO name [list] select | UPDATE [conflict] name SET sets [WHERE or] | DELETE FROM name [WHERE or] | CREATE TABLE [ifnot] name ( columns ) | CREATE [UNIQUE] INDEX [ifnot] name ON name ( keys ) | CREATE VIEW [ifnot] name [list] AS query | DROP thing [IF EXISTS] name | ALTER TABLE name RENAME TO name | ALTER TABLE name RENAME [COLUMN] name TO name | ALTER TABLE name ADD [COLUMN] column | BEGIN [mode] [TRANSACTION] | ending [TRANSACTION] | ROLLBACK [TRANSACTION] | ROLLBACK [TRANSACTION] TO [SAVEPOINT] name | SAVEPOINT name | RELEASE [SAVEPOINT] name
conflict = OR ABORT | OR IGNORE | OR REPLACE
list = ( names )
sets = set | sets , set
set = name = or
ifnot = IF NOT EXISTS
columns = column | columns , column
keys = key | keys , key
key = name [COLLATE ruleword] | name [COLLATE ruleword] ASC | name [COLLATE ruleword] DESC
thing = TABLE | INDEX | VIEW
mode = DEFERRED | IMMEDIATE | EXCLUSIVE
ending = COMMIT | END
column = name [typeword] [parts63]
constant = NULL | int | text | - int
part1 = PRIMARY KEY
part2 = UNIQUE
part4 = NOT NULL
part8 = DEFAULT constant
part16 = CHECK ( or )
part32 = COLLATE ruleword
`

// Those of layer 16. A rule with ' behind its name is the one of its level without EXISTS at its beginning.
const expressions = `
or = and | or OR and
and = not | and AND not
not = NOT EXISTS ( query ) | NOT not' | same
not' = NOT EXISTS ( query ) | NOT not' | same'
same = less | same equal less | same [NOT] LIKE less | same [NOT] GLOB less | same [NOT] BETWEEN less AND less | same [NOT] IN ( ) | same [NOT] IN ( exprs ) | same [NOT] IN ( query )
equal = = | == | <> | != | IS | IS NOT
less = sum | less compared sum
compared = < | <= | > | >=
sum = times | sum + times | sum - times
times = chain | times * chain | times / chain | times % chain
chain = sign | chain || sign
sign = - sign | + sign | ruled
sign' = - sign | + sign | ruled'
ruled = one | ruled COLLATE ruleword
one = one' | EXISTS ( query )
one' = NULL | int | text | name | name . name | param | ( or ) | ( query ) | case | CAST ( or AS typeword ) | called ( ) | called ( exprs ) | called ( DISTINCT or ) | called ( * )
called = name | REPLACE
case = CASE [or] whens [ELSE or] END
whens = WHEN or THEN or | whens WHEN or THEN or
exprs = or | exprs , or
query = united [ORDER BY terms] [LIMIT or] | united [ORDER BY terms] LIMIT or OFFSET or
united = part | united UNION part | united UNION ALL part | united INTERSECT part | united EXCEPT part
terms = term | terms , term
term = or | or ASC | or DESC
part = SELECT [DISTINCT] items [FROM sources] [WHERE or] [grouped] | SELECT ALL items [FROM sources] [WHERE or] [grouped] | VALUES rows1 | VALUES rows2 | VALUES rows3
grouped = GROUP BY exprs [HAVING or]
rows1 = ( or ) | rows1 , ( or )
rows2 = ( or , or ) | rows2 , ( or , or )
rows3 = ( or , or , or ) | rows3 , ( or , or , or )
items = item | items , item
item = * | name . * | or | or name | or AS name
sources = source | sources join source | sources join source ON or
source = table | table name | table AS name
table = name | ( query )
join = , | JOIN | INNER JOIN | CROSS JOIN | LEFT JOIN | LEFT OUTER JOIN
select = query | WITH tables query | WITH RECURSIVE tables query
tables = with | tables , with
with = name AS ( query ) | name ( names ) AS ( query )
names = name | names , name
`

// grammar is a rule's ways to be written, each a list of symbols.
type grammar map[string][][]string

func newGrammar() grammar {
	g := grammar{}
	for _, line := range strings.Split(strings.TrimSpace(statements+expressions[1:]), "\n") {
		head, ways, _ := strings.Cut(line, " = ")
		for _, way := range strings.Split(ways, " | ") {
			g[head] = append(g[head], eachWay(strings.Fields(way))...)
		}
	}
	for _, head := range strings.Fields("same less sum times chain ruled") {
		for _, way := range g[head] {
			g[head+"'"] = append(g[head+"'"], append([]string{way[0] + "'"}, way[1:]...))
		}
	}
	for left := 1; left < 64; left++ { // the parts of a column that have not stood yet
		head := "parts" + strconv.Itoa(left)
		for bit := 1; bit < 64; bit *= 2 {
			if left&bit == 0 {
				continue
			}
			part := "part" + strconv.Itoa(bit)
			g[head] = append(g[head], []string{part})
			if left != bit {
				g[head] = append(g[head], []string{part, "parts" + strconv.Itoa(left-bit)})
			}
		}
	}
	return g
}

// eachWay tells the ways to write a list with and without what stands in [ ].
func eachWay(l []string) [][]string {
	ways := [][]string{nil}
	for i := 0; i < len(l); i++ {
		more := []string{l[i]}
		mayMiss := strings.HasPrefix(l[i], "[")
		if mayMiss {
			for !strings.HasSuffix(l[i], "]") {
				i++
				more = append(more, l[i])
			}
			more = strings.Fields(strings.Trim(strings.Join(more, " "), "[]"))
		}
		var next [][]string
		for _, w := range ways {
			next = append(next, append(append([]string(nil), w...), more...))
			if mayMiss {
				next = append(next, w)
			}
		}
		ways = next
	}
	return ways
}

// spot is a rule's way under work: how far it got, and where it began.
type spot struct {
	head     string
	way, dot int
	from     int
}

// chart holds all that a list of tokens may be a beginning of, token by token, as Earley has it.
type chart struct {
	g    grammar
	sets []map[spot]bool
}

func newChart(g grammar) *chart {
	c := &chart{g: g}
	c.add([]spot{{"", 0, 0, 0}})
	return c
}

// next is the symbol that a spot wants, empty behind the last one.
func (c *chart) next(s spot) string {
	if s.head == "" {
		return []string{"whole", ""}[s.dot]
	}
	if way := c.g[s.head][s.way]; s.dot < len(way) {
		return way[s.dot]
	}
	return ""
}

func (c *chart) add(work []spot) bool {
	at := len(c.sets)
	set := map[spot]bool{}
	c.sets = append(c.sets, set)
	for len(work) > 0 {
		s := work[len(work)-1]
		work = work[:len(work)-1]
		if set[s] {
			continue
		}
		set[s] = true
		want := c.next(s)
		for way := range c.g[want] {
			work = append(work, spot{want, way, 0, at})
		}
		if want == "" && s.head != "" {
			for p := range c.sets[s.from] {
				if c.next(p) == s.head {
					p.dot++
					work = append(work, p)
				}
			}
		}
	}
	return len(set) > 0
}

// push goes on by a token, and tells whether it can stand there.
func (c *chart) push(t api.Token) bool {
	var work []spot
	for s := range c.sets[len(c.sets)-1] {
		if want := c.next(s); want != "" && c.g[want] == nil && isOf(t, want) {
			s.dot++
			work = append(work, s)
		}
	}
	if len(work) == 0 {
		return false
	}
	return c.add(work)
}

func (c *chart) pop() { c.sets = c.sets[:len(c.sets)-1] }

func (c *chart) whole() bool { return c.sets[len(c.sets)-1][spot{"", 0, 1, 0}] }

func isOf(t api.Token, class string) bool {
	switch class {
	case "int":
		_, e := strconv.ParseInt(t.Text, 10, 64)
		return t.Kind == api.TokInt && e == nil
	case "text":
		return (t.Kind == api.TokText || t.Kind == api.TokBlob) && len(t.Text) <= api.MaxValue
	case "param":
		n, e := strconv.Atoi(t.Text)
		return t.Kind == api.TokParam && (t.Text == "" || e == nil && n >= 1 && n <= api.MaxParams)
	case "name":
		return t.Kind == api.TokWord && token.Name(t.Text)
	case "typeword":
		return t.Kind == api.TokWord && strings.Contains(" INTEGER INT TEXT BLOB ", " "+strings.ToUpper(t.Text)+" ")
	case "ruleword":
		return t.Kind == api.TokWord && strings.Contains(" BINARY NOCASE RTRIM ", " "+strings.ToUpper(t.Text)+" ")
	}
	return t.Kind == api.TokSign && t.Text == class || t.Kind == api.TokWord && strings.ToUpper(t.Text) == class
}

// byGrammar tells the place of the first token that can't stand, or that all is whole.
func byGrammar(g grammar, sql string, l []api.Token) (int, api.Errno) {
	c := newChart(g)
	for _, k := range l {
		if !c.push(k) {
			return k.At, api.ErrSyntax
		}
	}
	if !c.whole() {
		return len(sql), api.ErrSyntax
	}
	return 0, api.OK
}

// asGrammar holds a text's reading against the grammar.
func asGrammar(t *testing.T, g grammar, sql string) api.Errno {
	t.Helper()
	l, _, e := token.Scan(sql)
	if e != api.OK {
		t.Fatal(sql, e)
	}
	place, want := byGrammar(g, sql, l)
	_, at, no := stmt.Parse(sql)
	if at != place || no != want && (want != api.OK || no != api.ErrDeep) {
		t.Errorf("%q: at %d, %v; by the grammar at %d, %v", sql, at, no, place, want)
	}
	return want
}

const signs = "a int binary 1 'a' ? , . * + - / % || = == <> != < <= > >= ; ( ) "

// TestP171EachShortText goes through all beginnings of few tokens, and whatever token may follow them.
func TestP171EachShortText(t *testing.T) {
	all := strings.Fields(signs + keywords)
	g := newGrammar()
	c := newChart(g)
	count := 0
	var grow func(sql string, more int)
	grow = func(sql string, more int) {
		for _, w := range all {
			next := strings.TrimSpace(sql + " " + w)
			k, _, _ := token.Scan(w)
			_, at, no := stmt.Parse(next)
			count++
			switch {
			case !c.push(k[0]):
				if at != len(next)-len(w) || no != api.ErrSyntax {
					t.Errorf("%q: at %d, %v", next, at, no)
				}
				continue
			case c.whole() && (at != 0 || no != api.OK), !c.whole() && (at != len(next) || no != api.ErrSyntax):
				t.Errorf("%q: at %d, %v", next, at, no)
			}
			if more > 0 {
				grow(next, more-1)
			}
			c.pop()
		}
	}
	grow("", 3)
	for _, sql := range []string{
		"INSERT INTO a", "INSERT OR ABORT INTO a ( a )", "INSERT INTO a ( a , a", "REPLACE INTO a ( a", "UPDATE a SET a = 1", "UPDATE OR REPLACE a", "UPDATE a SET a = 1 , a", "UPDATE a SET a = a WHERE", "DELETE FROM a WHERE a", "CREATE TABLE IF NOT EXISTS", "CREATE TABLE a (", "CREATE TABLE a ( a", "CREATE TABLE a ( a int", "CREATE TABLE a ( a , a", "CREATE TABLE a ( a PRIMARY KEY", "CREATE TABLE a ( a UNIQUE", "CREATE TABLE a ( a NOT NULL", "CREATE TABLE a ( a DEFAULT", "CREATE TABLE a ( a DEFAULT -", "CREATE TABLE a ( a DEFAULT 1", "CREATE TABLE a ( a DEFAULT - 1", "CREATE TABLE a ( a DEFAULT NULL", "CREATE TABLE a ( a CHECK ( 1", "CREATE TABLE a ( a CHECK ( 1 )", "CREATE TABLE a ( a COLLATE", "CREATE TABLE a ( a COLLATE binary", "CREATE TABLE a ( a COLLATE binary UNIQUE PRIMARY KEY", "CREATE TABLE a ( a )",
		"CREATE UNIQUE INDEX a", "CREATE INDEX IF NOT EXISTS a", "CREATE INDEX a ON a", "CREATE INDEX a ON a ( a", "CREATE INDEX a ON a ( a COLLATE", "CREATE INDEX a ON a ( a COLLATE binary", "CREATE INDEX a ON a ( a ASC", "CREATE INDEX a ON a ( a DESC", "CREATE INDEX a ON a ( a , a COLLATE binary DESC", "CREATE INDEX a ON a ( a )", "CREATE VIEW a", "CREATE VIEW a (", "CREATE VIEW a ( a", "CREATE VIEW a ( a )", "CREATE VIEW a AS", "CREATE VIEW a AS VALUES ( 1", "CREATE VIEW a AS SELECT a FROM a", "DROP TABLE IF", "DROP INDEX IF EXISTS", "DROP VIEW a",
		"ALTER TABLE a", "ALTER TABLE a RENAME", "ALTER TABLE a RENAME COLUMN", "ALTER TABLE a RENAME a", "ALTER TABLE a RENAME TO", "ALTER TABLE a RENAME COLUMN a TO", "ALTER TABLE a ADD COLUMN", "ALTER TABLE a ADD a", "ALTER TABLE a ADD a UNIQUE", "ALTER TABLE a ADD a DEFAULT", "ALTER TABLE a ADD a int NOT", "BEGIN EXCLUSIVE TRANSACTION", "END TRANSACTION", "ROLLBACK TRANSACTION TO", "ROLLBACK TO SAVEPOINT", "RELEASE SAVEPOINT", "SAVEPOINT a", "SELECT a ;", "VALUES ( 1 )", "WITH a AS ( SELECT 1 )", "INSERT INTO a WITH a AS ( SELECT 1 )", "CREATE VIEW a ( a ) AS SELECT 1 ;",
	} {
		l, _, _ := token.Scan(sql)
		c = newChart(g)
		for _, k := range l {
			if !c.push(k) {
				t.Fatal(sql)
			}
		}
		grow(sql, 1)
	}
	if count < 60000 {
		t.Error(count)
	}
}

// writer draws texts by the grammar.
type writer struct {
	*rand.Rand
	g        grammar
	left     int // about so many tokens more
	shortest map[string]int
}

func newWriter(seed int64) *writer {
	return &writer{Rand: rand.New(rand.NewSource(seed)), g: newGrammar(), shortest: map[string]int{}}
}

func (w *writer) write(symbol string) []string {
	ways := w.g[symbol]
	if ways == nil {
		w.left--
		return []string{w.word(symbol)}
	}
	way := ways[w.Intn(len(ways))]
	if w.left < 0 {
		way = slices.MinFunc(ways, func(x, y []string) int { return w.least(x) - w.least(y) })
	}
	var l []string
	for _, s := range way {
		l = append(l, w.write(s)...)
	}
	return l
}

// least is how many tokens a list of symbols has at least.
func (w *writer) least(l []string) int {
	sum := 0
	for _, s := range l {
		if w.g[s] == nil {
			sum++
			continue
		}
		if w.shortest[s] == 0 {
			w.shortest[s] = 1000 // till it is known
			for _, way := range w.g[s] {
				w.shortest[s] = min(w.shortest[s], w.least(way))
			}
		}
		sum += w.shortest[s]
	}
	return sum
}

func (w *writer) word(class string) string {
	pick := func(l string) string {
		words := strings.Fields(l)
		return words[w.Intn(len(words))]
	}
	switch class {
	case "int":
		return pick("0 1 42 007 9223372036854775807")
	case "text":
		return pick("'' 'a' 'it''s' x'' X'00fF'")
	case "param":
		return pick("?1 ?2 ?16 ?7 ?03")
	case "name":
		return pick("a b t u x Int binary nocase _ a1")
	case "typeword":
		return pick("INTEGER int Text BLOB")
	case "ruleword":
		return pick("BINARY nocase RTrim")
	}
	if w.Intn(2) == 0 {
		return strings.ToLower(class)
	}
	return class
}

func (w *writer) text() []string {
	for {
		w.left = 4 + w.Intn(40)
		if l := w.write("whole"); len(l) < 120 {
			return l
		}
	}
}

// TestP171DrawnTexts reads texts drawn by the grammar, as they are and spoilt.
func TestP171DrawnTexts(t *testing.T) {
	g := newGrammar()
	w := newWriter(17)
	all := strings.Fields(signs + keywords + " ?17 9223372036854775808")
	count := map[api.Errno]int{}
	for range 500 {
		l := w.text()
		count[asGrammar(t, g, strings.Join(l, " "))]++
		for range 3 {
			count[asGrammar(t, g, strings.Join(w.spoilt(l, all), " "))]++
		}
	}
	if count[api.OK] < 500 || count[api.ErrSyntax] < 800 {
		t.Error(count)
	}
}

// spoilt takes a word out, puts one in, exchanges one, or leaves off the end.
func (w *writer) spoilt(l []string, all []string) []string {
	at := w.Intn(len(l))
	word := all[w.Intn(len(all))]
	if w.Intn(2) == 0 {
		word = l[w.Intn(len(l))]
	}
	head, tail := append([]string(nil), l[:at]...), l[at:]
	switch w.Intn(4) {
	case 0:
		return append(head, tail[1:]...)
	case 1:
		return append(append(head, word), tail...)
	case 2:
		return append(append(head, word), tail[1:]...)
	}
	return head
}
