package console

import "strings"

// digits are the hexadecimal digits by their values.
const digits = "0123456789abcdef"

// nothing is the hexadecimal text of no bytes.
const nothing = "-"

// textOf returns the hexadecimal text of bytes.
func textOf(b []byte) string {
	if len(b) == 0 {
		return nothing
	}
	text := make([]byte, 0, 2*len(b))
	for _, x := range b {
		text = append(text, digits[x/16], digits[x%16])
	}
	return string(text)
}

// bytesOf returns the bytes of a hexadecimal text.
func bytesOf(text string) ([]byte, bool) {
	if text == nothing {
		return nil, true
	}
	if text == "" || len(text)%2 > 0 {
		return nil, false
	}
	b := make([]byte, 0, len(text)/2)
	for i := 0; i < len(text); i += 2 {
		high, low := strings.IndexByte(digits, text[i]), strings.IndexByte(digits, text[i+1])
		if high < 0 || low < 0 {
			return nil, false
		}
		b = append(b, byte(16*high+low))
	}
	return b, true
}
