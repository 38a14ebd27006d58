package expo

import (
	"strconv"
	"strings"

	"abacus/api"
	"abacus/labels"
)

// Print writes families.
func Print(l []api.Family) (string, api.Errno) {
	if why, _, _ := Check(l); why != api.OK {
		return "", why
	}
	var text []byte
	for _, f := range l {
		if f.Help != "" {
			text = appendLine(text, "#", helpWord, f.Name, escaped(f.Help))
		}
		text = appendLine(text, "#", typeWord, f.Name, kindWords[f.Kind])
		for _, s := range f.Samples {
			text = appendLine(text, sampleWords(s)...)
		}
	}
	return string(text), api.OK
}

// appendLine appends a line of words to a text.
func appendLine(text []byte, words ...string) []byte {
	for i, w := range words {
		if i > 0 {
			text = append(text, ' ')
		}
		text = append(text, w...)
	}
	return append(text, '\n')
}

// sampleWords are the words of a sample's line.
func sampleWords(s api.Sample) []string {
	name := s.Name
	if len(s.Labels) > 0 {
		text, _ := labels.Print(s.Labels)
		name += text
	}
	words := []string{name, Float(s.Value)}
	if s.Timed {
		words = append(words, strconv.FormatInt(s.Time, 10))
	}
	return words
}

// escaped is a help as it stands in a line.
func escaped(help string) string {
	return strings.NewReplacer(`\`, `\\`, "\n", `\n`).Replace(help)
}
