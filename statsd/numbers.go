package statsd

import (
	"strconv"
	"strings"
)

// one is 1 in millionths.
const one = 1000000

// mostDigits are the digits of a number on each side of its point, at most.
const mostDigits = 6

// amountOf is a number in millionths, if the text is one.
func amountOf(s string) (int64, bool) {
	whole, part, pointed := strings.Cut(s, ".")
	if !areDigits(whole) || pointed && !areDigits(part) || len(whole) > 1 && whole[0] == '0' {
		return 0, false
	}
	for len(part) < mostDigits {
		part += "0"
	}
	x, err := strconv.ParseInt(whole+part, 10, 64)
	return x, err == nil
}

// areDigits tells whether a text may stand on one side of a number's point.
func areDigits(s string) bool {
	for i := range len(s) {
		if !isDigit(s[i]) {
			return false
		}
	}
	return s != "" && len(s) <= mostDigits
}

// numberOf is the shortest number that says an amount, which is not below 0.
func numberOf(amount int64) string {
	whole := strconv.FormatInt(amount/one, 10)
	if amount%one == 0 {
		return whole
	}
	part := strconv.FormatInt(one+amount%one, 10)[1:] // with the noughts ahead of it
	return whole + "." + strings.TrimRight(part, "0")
}

// rateOf is a rate in millionths, if the text is one.
func rateOf(s string) (int64, bool) {
	if s == "1" {
		return one, true
	}
	rate, is := amountOf(s)
	return rate, is && rate > 0 && strings.HasPrefix(s, "0.")
}

// weightOf is for how many a point stands that came at a rate: of two whole numbers as near the greater one.
func weightOf(rate int64) int64 {
	return (2*one + rate) / (2 * rate)
}

// ratesOf are the least and the greatest rate that have a weight: there is none, if the least one is above the greatest.
func ratesOf(weight int64) (int64, int64) {
	return 2*one/(2*weight+1) + 1, min(one, 2*one/(2*weight-1))
}

// shortestRate is the rate of the fewest digits that has a weight, which is above 1 and has one.
func shortestRate(weight int64) int64 {
	least, most := ratesOf(weight)
	for step := int64(one / 10); step > 1; step /= 10 {
		if rate := (least + step - 1) / step * step; rate <= most {
			return rate
		}
	}
	return least
}
