package protocol

import (
	"strings"

	"mandrel/api"
)

// numbers is A, B and C of a card.
type numbers [3]int64

// form is how the cards of a kind look: the word of their line, and the greatest numbers that it can have, which are 0 behind the last one.
type form struct {
	kind  int
	word  string
	mosts numbers
}

// forms returns the forms of all kinds.
func forms() []form {
	return []form{
		{api.ProtocolDay, "day", numbers{api.MaxProtocolDay}},
		{api.ProtocolBox, "box", numbers{api.MaxProtocolBox}},
		{api.ProtocolSing, "sing", numbers{api.MaxNumber, api.MaxProtocolVoice, api.MaxProtocolTurns}},
		{api.ProtocolCopy, "copy", numbers{api.MaxNumber, api.MaxNumber}},
		{api.ProtocolCrack, "crack", numbers{api.MaxNumber}},
		{api.ProtocolMove, "move", numbers{api.MaxNumber}},
		{api.ProtocolStrike, "strike", numbers{api.MaxProtocolLines}},
	}
}

// allows tells whether the numbers of a card are as described.
func (f form) allows(of numbers) bool {
	for i, most := range f.mosts {
		if !within(min(1, most), most, of[i]) {
			return false
		}
	}
	return true
}

// line returns the line of a card with these numbers.
func (f form) line(of numbers) string {
	text := f.word
	for i, most := range f.mosts {
		if most > 0 {
			text = line(text, of[i])
		}
	}
	return text
}

// cardOf returns the card of a line, if it is one's: any other one, or none, if not.
func cardOf(line string) api.ProtocolCard {
	word, rest, _ := strings.Cut(line, " ")
	f, ok := first(forms(), func(f form) bool { return f.word == word })
	if !ok {
		return api.ProtocolCard{}
	}
	var of numbers
	for i := range of {
		word, rest, _ = strings.Cut(rest, " ")
		of[i] = number(word)
	}
	return api.ProtocolCard{Kind: f.kind, A: of[0], B: of[1], C: of[2]}
}
