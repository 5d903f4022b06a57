package desk

// beginning is a word with which a line may begin, and how many words stand behind it.
type beginning struct {
	name  string
	words int
}

// anyNumber stands for how many words stand behind one: however many.
const anyNumber = -1

// beginnings are all there are, in the order in which help tells them.
var beginnings = allBeginnings()

func allBeginnings() []beginning {
	return []beginning{
		{"careful", 0}, {"causal", 0}, {"check", 1}, {"clashes", 0}, {"clear", 0}, {"events", 0}, {"help", 0},
		{"ops", 0}, {"queue", 0}, {"same", 1}, {"see", 7}, {"sees", 0}, {"steps", anyNumber}, {"zones", 0},
	}
}

// mayBegin says whether a line may begin with the first of its words, and have so many behind it.
func mayBegin(words []string) bool {
	for _, b := range beginnings {
		if b.name == words[0] {
			return b.words == anyNumber || b.words == len(words)-1
		}
	}
	return false
}

// help tells with what lines may begin.
func (h *house) help([]string) []string {
	var names []string
	for _, b := range beginnings {
		names = append(names, b.name)
	}
	return names
}
