package query

import "strings"

// nameLabel is the label that has a series' name.
const nameLabel = "__name__"

// The words that are neither a function's, nor take rows together.
const (
	byWord      = "by"
	withoutWord = "without"
	offsetWord  = "offset"
)

// The functions of counters, and what stands at the end of the others' words.
const (
	rateWord     = "rate"
	increaseWord = "increase"
	overTime     = "_over_time"
)

// signs stand between two questions.
const signs = "+-*/<>"

func isFunction(word string) bool {
	switch word {
	case rateWord, increaseWord, "sum_over_time", "avg_over_time", "min_over_time", "max_over_time", "count_over_time", "last_over_time":
		return true
	}
	return false
}

// isTaking tells whether a word takes rows together.
func isTaking(word string) bool {
	switch word {
	case "sum", "min", "max", "avg", "count":
		return true
	}
	return false
}

// isOfLanguage tells whether a word is none that a select may begin with.
func isOfLanguage(word string) bool {
	return isFunction(word) || isTaking(word) || word == byWord || word == withoutWord || word == offsetWord
}

func isSign(op string) bool {
	return len(op) == 1 && strings.Contains(signs, op)
}

// isChoosing tells whether a sign chooses among rows.
func isChoosing(op string) bool {
	return op == "<" || op == ">"
}
