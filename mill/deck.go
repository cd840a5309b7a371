package mill

import (
	"tapestry/api"
	"tapestry/cards"
	"tapestry/draft"
)

// deck is what comes of a cloth: its cards, or what is wrong with it.
type deck struct {
	cards string
	err   api.Errno
}

// deckOf asks Fewest first: it refuses cloths without bits, of which Pack makes cards.
func deckOf(m api.Truth) deck {
	if _, err := draft.Fewest(m); err != api.OK {
		return deck{err: err}
	}
	punched, err := cards.Pack(m)
	return deck{cards: punched, err: err}
}

// together is the cards of all decks, and how many bytes they have; or the first error in their order, whichever came first in time.
func together(decks []deck) ([]string, int, api.Errno) {
	out := make([]string, len(decks))
	bytes := 0
	for i, d := range decks {
		if d.err != api.OK {
			return nil, 0, d.err
		}
		out[i] = d.cards
		bytes += len(d.cards)
	}
	return out, bytes, api.OK
}
