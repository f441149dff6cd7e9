package infix

import (
	"strconv"
	"strings"

	"census/api"
)

// tokenAt returns the token that begins at a place of a text; it is empty if none does.
func tokenAt(text string, at int) string {
	end := at
	for end < len(text) && inWord(text[end]) {
		end++
	}
	if end > at {
		return text[at:end]
	}
	for _, sign := range [...]string{"!", "&", "^", "|", "->", "<->", "(", ")", ","} {
		if strings.HasPrefix(text[at:], sign) {
			return sign
		}
	}
	return ""
}

// inWord reports whether words have the byte b.
func inWord(b byte) bool { return 'a' <= b && b <= 'z' || '0' <= b && b <= '9' }

// next goes on to the token behind the present one.
func (p *parser) next() {
	p.at += len(p.token)
	for p.at < len(p.text) && p.text[p.at] == ' ' {
		p.at++
	}
	p.token = tokenAt(p.text, p.at)
}

// accept reports whether the next token is this one, and goes on behind it if so.
func (p *parser) accept(token string) bool {
	if p.token != token {
		return false
	}
	p.next()
	return true
}

// demand goes on behind a token, which must be the next one.
func (p *parser) demand(token string) {
	if !p.accept(token) {
		p.fail(api.ErrForm)
	}
}

// enter goes on behind a token that is open from there on.
func (p *parser) enter() {
	if p.open == MaxOpen {
		p.fail(api.ErrLong)
	}
	p.open++
	p.next()
}

// variable returns the variable that the next token is, and 0 if it is none.
func (p *parser) variable() int {
	digits, ok := strings.CutPrefix(p.token, "x")
	v, err := strconv.Atoi(digits)
	// Only a number without leading zeros is what Itoa returns for it.
	if !ok || err != nil || v > p.n || strconv.Itoa(v) != digits {
		return 0
	}
	return v
}
