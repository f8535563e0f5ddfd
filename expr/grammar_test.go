package expr_test

import (
	"math/rand"
	"slices"
	"strconv"
	"strings"
	"testing"

	"bureau/api"
	"bureau/expr"
	"bureau/token"
)

// The chapter's texts as rules of a grammar: words in small letters are rules or classes of tokens, [x] is once or not at all, {x} as often as one likes. A rule with ' behind its name is the one of its level without EXISTS at its beginning.
const rules = `
or = and | or OR and
and = not | and AND not
not = NOT EXISTS ( query ) | NOT not' | same
not' = NOT EXISTS ( query ) | NOT not' | same'
same = less | same equal less | same [NOT] LIKE less | same [NOT] GLOB less | same [NOT] BETWEEN less AND less | same [NOT] IN ( ) | same [NOT] IN ( exprs ) | same [NOT] IN ( query )
equal = = | == | <> | != | IS | IS NOT
less = sum | less compared sum
compared = < | <= | > | >=
sum = times | sum + times | sum - times
times = chain | times * chain | times / chain | times % chain
chain = sign | chain || sign
sign = - sign | + sign | ruled
sign' = - sign | + sign | ruled'
ruled = one | ruled COLLATE ruleword
one = one' | EXISTS ( query )
one' = NULL | int | text | name | name . name | param | ( or ) | ( query ) | case | CAST ( or AS typeword ) | called ( ) | called ( exprs ) | called ( DISTINCT or ) | called ( * )
called = name | REPLACE
case = CASE [or] whens [ELSE or] END
whens = WHEN or THEN or | whens WHEN or THEN or
exprs = or | exprs , or
query = united [ORDER BY terms] [LIMIT or] | united [ORDER BY terms] LIMIT or OFFSET or
united = part | united UNION part | united UNION ALL part | united INTERSECT part | united EXCEPT part
terms = term | terms , term
term = or | or ASC | or DESC
part = SELECT [DISTINCT] items [FROM sources] [WHERE or] [grouped] | SELECT ALL items [FROM sources] [WHERE or] [grouped] | VALUES rows1 | VALUES rows2 | VALUES rows3 | VALUES rows4 | VALUES rows5
grouped = GROUP BY exprs [HAVING or]
rows1 = ( or ) | rows1 , ( or )
rows2 = ( or , or ) | rows2 , ( or , or )
rows3 = ( or , or , or ) | rows3 , ( or , or , or )
rows4 = ( or , or , or , or ) | rows4 , ( or , or , or , or )
rows5 = ( or , or , or , or , or ) | rows5 , ( or , or , or , or , or )
items = item | items , item
item = * | name . * | or | or name | or AS name
sources = source | sources join source | sources join source ON or
source = table | table name | table AS name
table = name | ( query )
join = , | JOIN | INNER JOIN | CROSS JOIN | LEFT JOIN | LEFT OUTER JOIN
select = query | WITH tables query | WITH RECURSIVE tables query
tables = with | tables , with
with = name AS ( query ) | name ( names ) AS ( query )
names = name | names , name
`

// grammar is a rule's ways to be written, each a list of symbols.
type grammar map[string][][]string

func grammarOf(text string) grammar {
	g := grammar{}
	for _, line := range strings.Split(strings.TrimSpace(text), "\n") {
		head, ways, _ := strings.Cut(line, " = ")
		for _, way := range strings.Split(ways, " | ") {
			g[head] = append(g[head], eachWay(strings.Fields(way))...)
		}
	}
	for _, head := range strings.Fields("same less sum times chain ruled") {
		for _, way := range g[head] {
			g[head+"'"] = append(g[head+"'"], append([]string{way[0] + "'"}, way[1:]...))
		}
	}
	return g
}

// eachWay tells the ways to write a list with and without what stands in [ ].
func eachWay(l []string) [][]string {
	ways := [][]string{nil}
	for i := 0; i < len(l); i++ {
		more := []string{l[i]}
		mayMiss := l[i] != "[" && strings.HasPrefix(l[i], "[")
		if mayMiss {
			for !strings.HasSuffix(l[i], "]") {
				i++
				more = append(more, l[i])
			}
			more = strings.Fields(strings.Trim(strings.Join(more, " "), "[]"))
		}
		var next [][]string
		for _, w := range ways {
			next = append(next, append(append([]string(nil), w...), more...))
			if mayMiss {
				next = append(next, w)
			}
		}
		ways = next
	}
	return ways
}

// spot is a rule's way under work: how far it got, and where it began.
type spot struct {
	head     string
	way, dot int
	from     int
}

// chart holds all that a list of tokens may be a beginning of, token by token, as Earley has it.
type chart struct {
	g    grammar
	sets []map[spot]bool
}

func newChart(g grammar, start string) *chart {
	c := &chart{g: g}
	c.add([]spot{{"", 0, 0, 0}}, start)
	return c
}

// next is the symbol that a spot wants, empty behind the last one.
func (c *chart) next(s spot, start string) string {
	if s.head == "" {
		return []string{start, ""}[s.dot]
	}
	if way := c.g[s.head][s.way]; s.dot < len(way) {
		return way[s.dot]
	}
	return ""
}

func (c *chart) add(work []spot, start string) bool {
	at := len(c.sets)
	set := map[spot]bool{}
	c.sets = append(c.sets, set)
	for len(work) > 0 {
		s := work[len(work)-1]
		work = work[:len(work)-1]
		if set[s] {
			continue
		}
		set[s] = true
		want := c.next(s, start)
		for way := range c.g[want] {
			work = append(work, spot{want, way, 0, at})
		}
		if want == "" && s.head != "" {
			for p := range c.sets[s.from] {
				if c.next(p, start) == s.head {
					p.dot++
					work = append(work, p)
				}
			}
		}
	}
	return len(set) > 0
}

// push goes on by a token, and tells whether it can stand there.
func (c *chart) push(t api.Token, start string) bool {
	var work []spot
	for s := range c.sets[len(c.sets)-1] {
		if want := c.next(s, start); want != "" && c.g[want] == nil && isOf(t, want) {
			s.dot++
			work = append(work, s)
		}
	}
	if len(work) == 0 {
		return false
	}
	return c.add(work, start)
}

func (c *chart) pop() { c.sets = c.sets[:len(c.sets)-1] }

func (c *chart) whole() bool { return c.sets[len(c.sets)-1][spot{"", 0, 1, 0}] }

func isOf(t api.Token, class string) bool {
	switch class {
	case "int":
		_, e := strconv.ParseInt(t.Text, 10, 64)
		return t.Kind == api.TokInt && e == nil
	case "text":
		return (t.Kind == api.TokText || t.Kind == api.TokBlob) && len(t.Text) <= api.MaxValue
	case "param":
		n, e := strconv.Atoi(t.Text)
		return t.Kind == api.TokParam && (t.Text == "" || e == nil && n >= 1 && n <= api.MaxParams)
	case "name":
		return t.Kind == api.TokWord && token.Name(t.Text)
	case "typeword":
		return t.Kind == api.TokWord && strings.Contains(" INTEGER INT TEXT BLOB ", " "+strings.ToUpper(t.Text)+" ")
	case "ruleword":
		return t.Kind == api.TokWord && strings.Contains(" BINARY NOCASE RTRIM ", " "+strings.ToUpper(t.Text)+" ")
	}
	return t.Kind == api.TokSign && t.Text == class || t.Kind == api.TokWord && strings.ToUpper(t.Text) == class
}

// asGrammar holds a text's reading against the grammar: the place of the first token that can't stand, or that all is whole.
func asGrammar(t *testing.T, g grammar, sql, start string) {
	t.Helper()
	l := scanned(t, sql)
	c := newChart(g, start)
	place, want := 0, api.OK
	for _, k := range l {
		if !c.push(k, start) {
			place, want = k.At, api.ErrSyntax
			break
		}
	}
	if want == api.OK && !c.whole() {
		place, want = len(sql), api.ErrSyntax
	}
	at, no := parsed(sql, start)
	if at != place || no != want && (want != api.OK || no != api.ErrDeep) {
		t.Errorf("%q: at %d, %v; by the grammar at %d, %v", sql, at, no, place, want)
	}
}

func parsed(sql, start string) (int, api.Errno) {
	if start == "select" {
		_, at, no := expr.ParseSelect(sql)
		return at, no
	}
	_, at, no := expr.Parse(sql)
	return at, no
}

// TestP161EachShortText goes through all beginnings of few tokens, and whatever token may follow them.
func TestP161EachShortText(t *testing.T) {
	g := grammarOf(rules)
	all := strings.Fields("a int binary 1 'a' ? , . * + - / % || = == <> != < <= > >= ; ( ) " + keywords)
	few := strings.Fields("a int binary 1 ? , . * - || = < ( ) OR AND NOT EXISTS SELECT VALUES LIKE IN BETWEEN IS COLLATE CASE WHEN THEN ELSE END CAST AS REPLACE DISTINCT NULL FROM WHERE GROUP BY HAVING UNION ALL ORDER LIMIT OFFSET ASC LEFT JOIN ON WITH RECURSIVE")
	for _, start := range []string{"or", "select"} {
		c := newChart(g, start)
		var grow func(sql string, more int)
		grow = func(sql string, more int) {
			words := few
			if more <= 1 {
				words = all
			}
			for _, w := range words {
				next := strings.TrimSpace(sql + " " + w)
				k := tokens(t, w)[0]
				at, no := parsed(next, start)
				switch {
				case !c.push(k, start):
					if at != len(next)-len(w) || no != api.ErrSyntax {
						t.Errorf("%q: at %d, %v", next, at, no)
					}
					continue
				case c.whole() && (at != 0 || no != api.OK), !c.whole() && (at != len(next) || no != api.ErrSyntax):
					t.Errorf("%q: at %d, %v", next, at, no)
				}
				if more > 0 {
					grow(next, more-1)
				}
				c.pop()
			}
		}
		grow("", 2)
		for _, sql := range []string{"SELECT a FROM a", "SELECT a", "VALUES ( 1 )", "WITH a", "WITH a AS ( SELECT 1 )", "SELECT a FROM a JOIN a", "SELECT a GROUP BY 1", "VALUES ( 1 , 2 ) , ( 3", "SELECT 1 UNION", "SELECT 1 ORDER BY 1", "SELECT 1 LIMIT 1", "SELECT a .", "a NOT", "a IN ( 1", "CASE WHEN 1 THEN 2", "CASE 1", "CAST ( a", "a ( DISTINCT 1", "NOT EXISTS ( SELECT 1 )", "a BETWEEN 1", "a IS NOT"} {
			c = newChart(g, start)
			ok := true
			for _, k := range tokens(t, sql) {
				ok = ok && c.push(k, start)
			}
			if ok {
				grow(sql, 1)
			}
		}
	}
}

// writer draws texts by the grammar.
type writer struct {
	*rand.Rand
	g        grammar
	left     int // about so many tokens more
	shortest map[string]int
}

func newWriter(seed int64) *writer {
	return &writer{Rand: rand.New(rand.NewSource(seed)), g: grammarOf(rules), shortest: map[string]int{}}
}

func (w *writer) write(symbol string) []string {
	ways := w.g[symbol]
	if ways == nil {
		w.left--
		return []string{w.word(symbol)}
	}
	way := ways[w.Intn(len(ways))]
	if w.left < 0 {
		way = slices.MinFunc(ways, func(x, y []string) int { return w.least(x) - w.least(y) })
	}
	var l []string
	for _, s := range way {
		l = append(l, w.write(s)...)
	}
	return l
}

// least is how many tokens a list of symbols has at least.
func (w *writer) least(l []string) int {
	sum := 0
	for _, s := range l {
		if w.g[s] == nil {
			sum++
			continue
		}
		if w.shortest[s] == 0 {
			w.shortest[s] = 1000 // till it is known
			for _, way := range w.g[s] {
				w.shortest[s] = min(w.shortest[s], w.least(way))
			}
		}
		sum += w.shortest[s]
	}
	return sum
}

func (w *writer) word(class string) string {
	pick := func(l string) string {
		words := strings.Fields(l)
		return words[w.Intn(len(words))]
	}
	switch class {
	case "int":
		return pick("0 1 42 007 9223372036854775807")
	case "text":
		return pick("'' 'a' 'it''s' x'' X'00fF'")
	case "param":
		return pick("?1 ?2 ?16 ?7 ?03")
	case "name":
		return pick("a b t u x Int binary nocase _ a1")
	case "typeword":
		return pick("INTEGER int Text BLOB")
	case "ruleword":
		return pick("BINARY nocase RTrim")
	}
	if w.Intn(2) == 0 {
		return strings.ToLower(class)
	}
	return class
}

func (w *writer) text(start string) []string {
	for {
		w.left = 4 + w.Intn(30)
		if l := w.write(start); len(l) < 120 {
			return l
		}
	}
}

// TestP161DrawnTexts reads texts drawn by the grammar, as they are and spoilt.
func TestP161DrawnTexts(t *testing.T) {
	g := grammarOf(rules)
	w := newWriter(16)
	all := strings.Fields("a int binary 1 'a' ?2 , . * + - / % || = == <> != < <= > >= ; ( ) ?17 9223372036854775808 " + keywords)
	for i := 0; i < 300; i++ {
		start := []string{"or", "select"}[i%2]
		l := w.text(start)
		asGrammar(t, g, strings.Join(l, " "), start)
		for range 3 {
			asGrammar(t, g, strings.Join(w.spoilt(l, all), " "), start)
		}
	}
}

// spoilt takes a word out, puts one in, exchanges one, or leaves off the end.
func (w *writer) spoilt(l []string, all []string) []string {
	at := w.Intn(len(l))
	word := all[w.Intn(len(all))]
	if w.Intn(2) == 0 {
		word = l[w.Intn(len(l))]
	}
	head, tail := append([]string(nil), l[:at]...), l[at:]
	switch w.Intn(4) {
	case 0:
		return append(head, tail[1:]...)
	case 1:
		return append(append(head, word), tail...)
	case 2:
		return append(append(head, word), tail[1:]...)
	}
	return head
}
