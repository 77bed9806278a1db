// Package scan goes through a text sign by sign and name by name, with blanks and line feeds between them, wherever one likes. A text that goes on otherwise than it may ends the work that stop.Caught does.
package scan

import (
	"strings"

	"sequent/api"
	"sequent/stop"
)

// Text is a text that is being read; at is the first byte that is not.
type Text struct {
	text string
	at   int
}

// New is a text of which nothing is read.
func New(text string) Text { return Text{text: text} }

// Take reads the sign, if it is next.
func (t *Text) Take(sign string) bool {
	t.skipBlanks()
	if !strings.HasPrefix(t.text[t.at:], sign) {
		return false
	}
	t.at += len(sign)
	return true
}

// Need reads the sign, which must be next.
func (t *Text) Need(sign string) {
	if !t.Take(sign) {
		t.Wrong()
	}
}

// Name reads as many letters as are next, which must be a name that may stand there.
func (t *Text) Name(isLetter func(byte) bool, isName func(string) bool) string {
	t.skipBlanks()
	end := t.at
	for end < len(t.text) && isLetter(t.text[end]) {
		end++
	}
	name := t.text[t.at:end]
	if !isName(name) {
		t.Wrong()
	}
	t.at = end
	// A piece of the text would keep all of it in memory.
	return strings.Clone(name)
}

// End asks that nothing is left to read.
func (t *Text) End() {
	t.skipBlanks()
	if t.at < len(t.text) {
		t.Wrong()
	}
}

// Wrong tells that what is next may not stand there.
func (t *Text) Wrong() {
	t.skipBlanks()
	stop.At(api.ErrText, t.at)
}

func (t *Text) skipBlanks() {
	for t.at < len(t.text) && (t.text[t.at] == ' ' || t.text[t.at] == '\n') {
		t.at++
	}
}
