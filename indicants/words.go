package indicants

import "environ/api"

// Reserved reports whether a word is reserved.
func Reserved(word string) bool {
	switch word {
	case "BEGIN", "END", "IF", "THEN", "ELIF", "ELSE", "FI", "CASE", "IN", "OUSE", "OUT", "ESAC",
		"FOR", "FROM", "BY", "TO", "WHILE", "DO", "OD", "GOTO", "EXIT",
		"MODE", "PRIO", "OP", "PROC", "REF", "FLEX", "STRUCT", "UNION", "LOC", "HEAP",
		"NIL", "SKIP", "TRUE", "FALSE", "EMPTY", "IS", "ISNT", "OF", "AT", "PAR",
		"VOID", "INT", "REAL", "BOOL", "CHAR", "BITS", "COMPL", "STRING", "FILE", "FORMAT", "SEMA", "LONG", "SHORT",
		"CO", "COMMENT", "PR", "PRAGMAT":
		return true
	}
	return false
}

// Operator reports whether a symbol is an operator, if it means no mode indicant.
func Operator(s api.Symbol) bool {
	switch s.Kind {
	case api.SymBold:
		return !Reserved(s.Text)
	case api.SymSign:
		return isOperatorSign(s.Text)
	}
	return false
}

// isOperatorSign reports whether a sign is an operator.
func isOperatorSign(text string) bool {
	switch text {
	case "=", "/=", "<", "<=", ">", ">=", "+", "-", "*", "/", "%", "^", "&", "~", "**", "//", "%*", "+*",
		"+:=", "-:=", "*:=", "/:=", "%:=", "%*:=", "+=:":
		return true
	}
	return false
}

// Standard returns the priority of an operator around all programs, or 0.
func Standard(op string) int {
	switch op {
	case "+:=", "-:=", "*:=", "/:=", "%:=", "%*:=", "+=:", "PLUSAB", "MINUSAB", "TIMESAB", "DIVAB", "OVERAB", "MODAB", "PLUSTO":
		return 1
	case "OR":
		return 2
	case "&", "AND":
		return 3
	case "=", "/=", "EQ", "NE":
		return 4
	case "<", "<=", ">", ">=", "LT", "LE", "GT", "GE":
		return 5
	case "+", "-":
		return 6
	case "*", "/", "%", "%*", "OVER", "MOD", "ELEM":
		return 7
	case "**", "^", "SHL", "SHR", "UP", "DOWN", "LWB", "UPB":
		return 8
	case "+*", "I":
		return 9
	}
	return 0
}

// isBold reports whether a symbol is a bold word.
func isBold(x api.Symbol, word string) bool { return x.Kind == api.SymBold && x.Text == word }

// isSign reports whether a symbol is a sign.
func isSign(x api.Symbol, text string) bool { return x.Kind == api.SymSign && x.Text == text }
