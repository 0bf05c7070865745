package vocabulary

import (
	"strings"

	"passim/api"
	"passim/token"
)

// Mention is an occurrence of a term in a text: the tokens From to To - 1, the term as it is named there, and its preferred name.
type Mention struct {
	From, To        int
	Name, Preferred string
}

// words returns for each token of a text its folded text, if it is a word of the text, and otherwise the empty string.
func words(text string) []string {
	tokens := token.Split(text)
	l := make([]string, len(tokens))
	for first := 0; first < len(tokens); {
		end, whole := first, true
		for end < len(tokens) && (end == first || tokens[end].At == tokens[end-1].End) {
			whole = whole && (tokens[end].Kind == token.Word || tokens[end].Kind == token.Sign)
			end++
		}
		for i := first; i < end; i++ {
			if whole && tokens[i].Kind == token.Word {
				l[i] = token.Fold(text[tokens[i].At:tokens[i].End])
			}
		}
		first = end
	}
	return l
}

// Mentions returns the mentions of a text.
func Mentions(l []api.Term, text string, lang int) []Mention {
	if !valid(l) {
		return nil
	}
	named := map[string]api.Term{}
	for _, t := range l {
		if t.Lang == 0 || t.Lang == lang {
			named[t.Name] = t
		}
	}
	all := words(text)
	// longest returns the term with the most words that stands at a token.
	longest := func(at int) (api.Term, int) {
		for n := min(mostWords, len(all)-at); n > 0; n-- {
			if t, ok := named[strings.Join(all[at:at+n], " ")]; ok {
				return t, n
			}
		}
		return api.Term{}, 0
	}
	var found []Mention
	for at := 0; at < len(all); {
		t, n := longest(at)
		if n == 0 {
			at++
			continue
		}
		found = append(found, Mention{at, at + n, t.Name, preferred(t)})
		at += n
	}
	return found
}
