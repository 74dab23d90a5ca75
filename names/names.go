// Package names tells what a name is, wherever a text or a function has one.
package names

import (
	"pigeonhole/api"
	"pigeonhole/lexer"
)

const kindName = 1 // of a token

// Is tells whether s is a name: one that a description's tokens may be.
func Is(s string) bool {
	// A great text is no name, and need not be read for that.
	if len(s) > api.MaxName {
		return false
	}
	l, _, _, err := lexer.Tokens(s)
	return err == api.OK && l[0].Kind == kindName && l[0].Text == s
}
