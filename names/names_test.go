package names_test

import (
	"strings"
	"testing"

	"pigeonhole/names"
)

func TestIs(t *testing.T) {
	for _, s := range []string{"a", "z", "A", "Z", "_", "a1", "_9", "aZ_0", "machine", "const", strings.Repeat("a", 20), "_" + strings.Repeat("0", 19)} {
		if !names.Is(s) {
			t.Errorf("%q is a name", s)
		}
	}
	for _, s := range []string{"", " ", "1", "1a", "{", "=", "#", "a b", "a ", " a", "a\n", "\ta", "a#", "#a", "a:b", "a-b", "-", "a.b", "a\x00", "\x00", "é", "aé", "a\xff", strings.Repeat("a", 21), strings.Repeat("a", 1<<16+1), "a" + strings.Repeat(" ", 19)} {
		if names.Is(s) {
			t.Errorf("%q is no name", s)
		}
	}
}

func TestIsEachByte(t *testing.T) {
	for b := range 256 {
		letter := 'a' <= b && b <= 'z' || 'A' <= b && b <= 'Z' || b == '_'
		digit := '0' <= b && b <= '9'
		one, two := string([]byte{byte(b)}), string([]byte{'x', byte(b)})
		if names.Is(one) != letter {
			t.Errorf("%q: %v", one, names.Is(one))
		}
		if names.Is(two) != (letter || digit) {
			t.Errorf("%q: %v", two, names.Is(two))
		}
	}
}
