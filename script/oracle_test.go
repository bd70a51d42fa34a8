package script_test

import (
	"fmt"
	"regexp"
	"strconv"
	"strings"

	"assize/api"
)

// Here chapter 5's E1 to E3 are told anew, as rules of a grammar with one token
// ahead: a stack of what is still to come is worked off token by token.

const allWords = "contract slot map fn open let if else while return need pay note ask value gas true false self caller height balance who num flag or and not"

const allSigns = "-> == != <= >= { } ( ) [ ] ; : , . = < > + - * / %"

var (
	gaps    = regexp.MustCompile(`^([ \n]|#[^\n]*)*`)
	pieces  = regexp.MustCompile(`^([a-z][a-z0-9_]*|[0-9]+|->|==|!=|<=|>=|[{}()\[\];:,.=<>+*/%-])`)
	numbers = regexp.MustCompile(`^(0|[1-9][0-9]*)$`)
)

// Classes of tokens, beside the words and signs themselves.
const (
	aName   = "NAME"
	aNumber = "NUMBER"
	theEnd  = "END"
	bad     = "BAD"
)

// firstToken: its class, and the text behind it.
func firstToken(s string) (class, rest string) {
	s = s[len(gaps.FindString(s)):]
	if s == "" {
		return theEnd, ""
	}
	p := pieces.FindString(s)
	rest = s[len(p):]
	switch {
	case p == "":
		return bad, ""
	case strings.Contains(" "+allWords+" "+allSigns+" ", " "+p+" "):
		return p, rest
	case p[0] >= 'a':
		if len(p) > 16 {
			return bad, ""
		}
		return aName, rest
	}
	n, err := strconv.ParseUint(p, 10, 64)
	if err != nil || n > 1099511627775 || !numbers.MatchString(p) {
		return bad, ""
	}
	return aNumber, rest
}

// rules: "<what> token" (or _ for any other one) and what is to come there. In
// it ^x is the token x with which a level begins, $ a level's end, !x a count.
var rules = makeRules()

func makeRules() map[string]string {
	m := map[string]string{}
	for _, line := range strings.Split(strings.TrimSpace(grammar), "\n") {
		left, right, _ := strings.Cut(line, " :")
		head := strings.Fields(left)
		for _, token := range head[1:] {
			m[head[0]+" "+token] = strings.ReplaceAll(right, "THIS", token)
		}
	}
	for list, one := range map[string]string{"A": "<expr>", "P": "NAME : <kind>"} {
		m["<"+list+"0> )"] = ""
		m["<"+list+"0> _"] = fmt.Sprintf("%s <%s1>", one, list)
		for n := 1; n <= 8; n++ {
			m[fmt.Sprintf("<%s%d> ,", list, n)] = fmt.Sprintf(", %s <%s%d>", one, list, n+1)
			m[fmt.Sprintf("<%s%d> _", list, n)] = ""
		}
		m["<"+list+"8> ,"] = "!limit"
	}
	return m
}

const grammar = `
<contract> _ : contract NAME { <items> }
<items> slot : !var slot NAME : <kind> ; <items>
<items> map : !var map NAME : <kind> -> <kind> ; <items>
<items> fn : !fn <fn> <items>
<items> open : !fn open <fn> <items>
<items> _ :
<fn> _ : fn NAME ( <P0> ) -> <kind> <block>
<kind> num flag who : THIS
<block> _ : ^{ <steps> } $
<steps> } :
<steps> _ : <step> <steps>
<step> let : let NAME : <kind> = <expr> ;
<step> NAME : NAME <key> = <expr> ;
<key> [ : ^[ <expr> ] $
<key> _ :
<step> if : if <expr> <block> <else>
<else> else : else <block>
<else> _ :
<step> while : while <expr> <block>
<step> return need note : THIS <expr> ;
<step> pay : pay <expr> , <expr> ;
<step> ask : ask NAME , NAME = <expr> . NAME ^( <A0> ) $ value <expr> gas <expr> ;
<expr> _ : <and> <more-or>
<more-or> or : or <and> <more-or>
<more-or> _ :
<and> _ : <not> <more-and>
<more-and> and : and <not> <more-and>
<more-and> _ :
<not> not : ^not <not> $
<not> _ : <sum> <compare>
<compare> == != < <= > >= : THIS <sum>
<compare> _ :
<sum> _ : <product> <more-sum>
<more-sum> + - : THIS <product> <more-sum>
<more-sum> _ :
<product> _ : <atom> <more-product>
<more-product> * / % : THIS <atom> <more-product>
<more-product> _ :
<atom> NUMBER true false self caller value height : THIS
<atom> balance who num : THIS ^( <expr> ) $
<atom> ( : ^( <expr> ) $
<atom> NAME : NAME <behind>
<behind> [ : ^[ <expr> ] $
<behind> ( : ^( <A0> ) $
<behind> _ :
`

// faultOf: what E3 says of a text.
func faultOf(text string) api.Errno {
	if len(text) > 2048 {
		return api.ErrLimit
	}
	level, counts := 0, map[string]int{"!var": 32, "!fn": 32, "!limit": 0}
	stack := []string{"<contract>"}
	for {
		token, rest := firstToken(text)
		if token == bad {
			return api.ErrWord
		}
		if len(stack) == 0 {
			return map[bool]api.Errno{true: api.OK, false: api.ErrLong}[token == theEnd]
		}
		top := stack[len(stack)-1]
		stack = stack[:len(stack)-1]
		rule, ok := rules[top+" "+token]
		if !ok {
			rule, ok = rules[top+" _"]
		}
		switch {
		case ok:
			l := strings.Fields(rule)
			for i := len(l) - 1; i >= 0; i-- {
				stack = append(stack, l[i])
			}
		case top == "$":
			level--
		case top[0] == '!' && top != "!=":
			if counts[top]--; counts[top] < 0 {
				return api.ErrLimit
			}
		case strings.TrimPrefix(top, "^") != token && token == theEnd:
			return api.ErrShort
		case strings.TrimPrefix(top, "^") != token:
			return api.ErrWord
		default:
			if top[0] == '^' {
				level++
			}
			if level > 32 {
				return api.ErrDeep
			}
			text = rest
		}
	}
}
