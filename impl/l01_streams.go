package impl

import (
	"slices"
	"strconv"
	"strings"
)

const MaxToken = 999999
const MaxStream = 400

const tokenCount = 2*MaxToken + 1
const emptyStreamText = "."

func WrapToken(n int) int {
	// The remainder is taken first, because n plus anything may overflow.
	n %= tokenCount
	if n > MaxToken {
		return n - tokenCount
	}
	if n < -MaxToken {
		return n + tokenCount
	}
	return n
}

func isToken(n int) bool {
	return -MaxToken <= n && n <= MaxToken
}

func IsStream(s []int) bool {
	if len(s) > MaxStream {
		return false
	}
	for _, token := range s {
		if !isToken(token) {
			return false
		}
	}
	return true
}

func IsPrefix(a []int, b []int) bool {
	return IsStream(a) && IsStream(b) && len(a) <= len(b) && slices.Equal(a, b[:len(a)])
}

func copyOf(s []int) []int {
	out := make([]int, len(s))
	copy(out, s)
	return out
}

func MeetStreams(a []int, b []int) []int {
	if !IsStream(a) || !IsStream(b) {
		return nil
	}
	common := 0
	for common < len(a) && common < len(b) && a[common] == b[common] {
		common++
	}
	return copyOf(a[:common])
}

func JoinStreams(a []int, b []int) ([]int, bool) {
	if IsPrefix(a, b) {
		return copyOf(b), true
	}
	if IsPrefix(b, a) {
		return copyOf(a), true
	}
	return nil, false
}

func AppendStream(a []int, b []int) ([]int, bool) {
	if !IsStream(a) || !IsStream(b) || len(a)+len(b) > MaxStream {
		return nil, false
	}
	out := make([]int, len(a)+len(b))
	copy(out, a)
	copy(out[len(a):], b)
	return out, true
}

func RestOf(a []int, b []int) ([]int, bool) {
	if !IsPrefix(a, b) {
		return nil, false
	}
	return copyOf(b[len(a):]), true
}

func AlternateStreams(a []int, b []int) []int {
	if !IsStream(a) || !IsStream(b) {
		return nil
	}
	var out []int
	for len(out) < MaxStream {
		turn, next := a, len(out)/2
		if len(out)%2 == 1 {
			turn = b
		}
		if next == len(turn) {
			break
		}
		out = append(out, turn[next])
	}
	return out
}

func SplitStream(s []int) ([]int, []int) {
	if !IsStream(s) {
		return nil, nil
	}
	var even, odd []int
	for i, token := range s {
		if i%2 == 0 {
			even = append(even, token)
		} else {
			odd = append(odd, token)
		}
	}
	return even, odd
}

func RouteStream(s []int, m int) ([]int, []int) {
	if !IsStream(s) || m <= 0 {
		return nil, nil
	}
	var multiples, others []int
	for _, token := range s {
		if token%m == 0 {
			multiples = append(multiples, token)
		} else {
			others = append(others, token)
		}
	}
	return multiples, others
}

func SumsOf(s []int) []int {
	if !IsStream(s) {
		return nil
	}
	out := make([]int, len(s))
	sum := 0
	for i, token := range s {
		sum = WrapToken(sum + token)
		out[i] = sum
	}
	return out
}

func StepsOf(s []int) []int {
	if !IsStream(s) {
		return nil
	}
	out := make([]int, len(s))
	before := 0
	for i, token := range s {
		out[i] = WrapToken(token - before)
		before = token
	}
	return out
}

func HoldStream(s []int, k int) ([]int, bool) {
	// The room is divided, because the length times k may overflow.
	if !IsStream(s) || k < 0 || len(s) > 0 && k > MaxStream/len(s) {
		return nil, false
	}
	var out []int
	for _, token := range s {
		for range k {
			out = append(out, token)
		}
	}
	return out, true
}

func FormatStream(s []int) string {
	if !IsStream(s) {
		return ""
	}
	if len(s) == 0 {
		return emptyStreamText
	}
	texts := make([]string, len(s))
	for i, token := range s {
		texts[i] = strconv.Itoa(token)
	}
	return strings.Join(texts, ",")
}

func ParseStream(text string) ([]int, bool) {
	if text == emptyStreamText {
		return nil, true
	}
	var out []int
	start := 0
	// With a comma behind the text, the last token ends like all others.
	for end, char := range text + "," {
		if char != ',' {
			continue
		}
		token, ok := parseDecimal(text[start:end])
		if !ok || !isToken(token) || len(out) == MaxStream {
			return nil, false
		}
		out = append(out, token)
		start = end + 1
	}
	return out, true
}

func parseDecimal(text string) (int, bool) {
	n, err := strconv.Atoi(text)
	// Atoi also takes a plus sign, leading zeros and -0, none of which is how a number is written.
	if err != nil || strconv.Itoa(n) != text {
		return 0, false
	}
	return n, true
}
