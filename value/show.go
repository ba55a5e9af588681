package value

import (
	"strconv"

	"foreman/api"
)

const digits = "0123456789ABCDEF"

// Show is what a right value is shown as; another value is shown as nothing.
func Show(v api.Value) string {
	if !Right(v) {
		return ""
	}
	return string(shown(nil, v))
}

// shown puts what v is shown as behind b.
func shown(b []byte, v api.Value) []byte {
	switch v.Kind {
	case api.ValNumber:
		return strconv.AppendInt(b, v.N, 10)
	case api.ValText:
		return shownText(b, v.S)
	}
	b = append(b, '[')
	for i, one := range v.L {
		if i > 0 {
			b = append(b, ',')
		}
		b = shown(b, one)
	}
	return append(b, ']')
}

func shownText(b []byte, s string) []byte {
	b = append(b, '"')
	for i := range len(s) {
		if isPlain(s[i]) {
			b = append(b, s[i])
		} else {
			b = append(b, '%', digits[s[i]/16], digits[s[i]%16])
		}
	}
	return append(b, '"')
}

// isPlain tells whether a text's byte is shown as it is.
func isPlain(c byte) bool {
	return c >= 33 && c <= 126 && c != '"' && c != '%'
}
