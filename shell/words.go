package shell

import (
	"strconv"
	"strings"

	"passim/api"
)

const (
	blank      = " "
	comma      = ","
	slash      = "/"
	main       = "!"
	empty      = "-" // an empty list or string
	mostDigits = 7
)

// words is what is left of a line. Its methods end the command, if a word is not as it has to be.
type words struct{ left []string }

// need ends a command whose line is not well formed.
func need(ok bool) {
	if !ok {
		panic(failure(api.ErrForm))
	}
}

// split divides a line into words.
func split(line string) *words {
	need(len(line) <= api.MaxText)
	for i := range len(line) {
		need(line[i] >= ' ' && line[i] <= '~')
	}
	w := &words{strings.Split(line, blank)}
	for _, word := range w.left {
		need(word != "")
	}
	return w
}

// next returns the next word.
func (w *words) next() string {
	need(len(w.left) > 0)
	word := w.left[0]
	w.left = w.left[1:]
	return word
}

// end ends a command with further words.
func (w *words) end() { need(len(w.left) == 0) }

// rest returns all words that are left.
func (w *words) rest() []string {
	need(len(w.left) > 0)
	l := w.left
	w.left = nil
	return l
}

// text reads a TEXT.
func (w *words) text() string { return strings.Join(w.rest(), blank) }

// number reads a number.
func number(word string) int {
	need(word != "" && len(word) <= mostDigits && strings.Trim(word, "0123456789") == "")
	n, _ := strconv.Atoi(word)
	return n
}

// numbers reads a number of numbers with signs between them.
func numbers(word, sign string, count int) []int {
	parts := strings.Split(word, sign)
	need(len(parts) == count)
	var l []int
	for _, p := range parts {
		l = append(l, number(p))
	}
	return l
}

// id reads an ID.
func id(word string) api.ID {
	n := numbers(word, ".", 3)
	return api.ID{By: n[0], Seq: n[1], K: n[2]}
}

// list reads a list of elements.
func list[T any](word string, element func(string) T) []T {
	if word == empty {
		return nil
	}
	var l []T
	for part := range strings.SplitSeq(word, comma) {
		l = append(l, element(part))
	}
	return l
}

// letters reads a string with "_" for each blank.
func letters(word string) string {
	need(word != "" && !strings.ContainsAny(word, comma+slash+main))
	return strings.ReplaceAll(word, "_", blank)
}

// path reads a path, and whether it is main.
func path(word string) api.Post {
	word, isMain := strings.CutSuffix(word, main)
	p := api.Post{Main: isMain}
	for part := range strings.SplitSeq(word, slash) {
		p.Path = append(p.Path, letters(part))
	}
	return p
}

// pair reads a pair of two numbers.
func pair(word string) [2]int { return [2]int(numbers(word, empty, 2)) }

// choice reads one of some words, and returns its number.
func choice(word string, of ...string) int {
	for i, x := range of {
		if x == word {
			return i
		}
	}
	need(false)
	return 0
}

func (w *words) number() int { return number(w.next()) }

func (w *words) id() api.ID { return id(w.next()) }

func (w *words) ids() []api.ID { return list(w.next(), id) }

func (w *words) numbers() []int { return list(w.next(), number) }

func (w *words) pairs() [][2]int { return list(w.next(), pair) }

func (w *words) form() int { return choice(w.next(), forms()...) }

func (w *words) kind() int { return choice(w.next(), "person", "place", "subject") }

func (w *words) letters() string {
	word := w.next()
	if word == empty {
		return ""
	}
	return letters(word)
}

func (w *words) lettersList() []string { return list(w.next(), letters) }

// posts reads PATHS for a passage.
func (w *words) posts(id api.ID) []api.Post {
	l := list(w.next(), path)
	for i := range l {
		l[i].ID = id
	}
	return l
}

// forms returns the names of the forms of passages.
func forms() []string { return []string{"para", "note", "plate", "table"} }

// showID prints an ID.
func showID(id api.ID) string {
	return strconv.Itoa(id.By) + "." + strconv.Itoa(id.Seq) + "." + strconv.Itoa(id.K)
}

// show prints a list.
func show[T any](l []T, element func(T) string) string {
	if len(l) == 0 {
		return empty
	}
	var parts []string
	for _, x := range l {
		parts = append(parts, element(x))
	}
	return strings.Join(parts, comma)
}

// showLetters prints a string with "_" for each blank.
func showLetters(s string) string { return strings.ReplaceAll(s, blank, "_") }

// showPath prints a path.
func showPath(p api.Post) string {
	var parts []string
	for _, word := range p.Path {
		parts = append(parts, showLetters(word))
	}
	text := strings.Join(parts, slash)
	if p.Main {
		text += main
	}
	return text
}
