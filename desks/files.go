package desks

import (
	"strconv"
	"strings"

	"handshape/api"
)

// end stands after the last record, where another record would have the number of its bytes.
const end = 99

const feed = '\n'

// isPlain reports whether a byte can be in a line that is written.
func isPlain(b byte) bool { return ' ' <= b && b <= '~' }

func canBeWritten(line string) bool {
	for i := range len(line) {
		if !isPlain(line[i]) {
			return false
		}
	}
	return len(line) <= api.MaxBytes
}

// checkLetter returns the check letter of a line.
func checkLetter(line string) byte {
	sum := 0
	for i := range len(line) {
		sum += int(line[i])
	}
	return 'a' + byte(sum%26)
}

// twoDigits returns a number below 100 as it is written in a file.
func twoDigits(n int) string { return strconv.Itoa(n/10) + strconv.Itoa(n%10) }

// file returns the file of a script whose lines can be written.
func file(script []string) string {
	var text strings.Builder
	for _, line := range script {
		text.WriteString(twoDigits(len(line)) + line)
		text.WriteByte(checkLetter(line))
		text.WriteByte(feed)
	}
	text.WriteString(twoDigits(end) + twoDigits(len(script)))
	text.WriteByte(feed)
	return text.String()
}

// reader reads a text, as long as its bytes are those of a file. After a byte that is not, or the end of the text, it has failed, and reads nothing more.
type reader struct {
	text   string
	at     int
	failed bool
}

// next reads a byte that is allowed.
func (r *reader) next(allowed func(b byte) bool) byte {
	if r.failed || r.at == len(r.text) || !allowed(r.text[r.at]) {
		r.failed = true
		return 0
	}
	b := r.text[r.at]
	r.at++
	return b
}

// exactly allows one byte alone.
func exactly(b byte) func(byte) bool { return func(c byte) bool { return c == b } }

// number reads the two digits of a number that is allowed. The first digit is read if some number that is allowed begins with it.
func (r *reader) number(allowed func(n int) bool) int {
	begun := func(tens int) bool {
		for units := range 10 {
			if allowed(10*tens + units) {
				return true
			}
		}
		return false
	}
	tens := r.digit(begun)
	return 10*tens + r.digit(func(units int) bool { return allowed(10*tens + units) })
}

// digit reads a digit whose value is allowed, and returns the value.
func (r *reader) digit(allowed func(value int) bool) int {
	b := r.next(func(b byte) bool { return '0' <= b && b <= '9' && allowed(int(b-'0')) })
	return int(b) - '0'
}

// script reads a file, and returns its script.
func (r *reader) script() []string {
	var script []string
	startsRecord := func(n int) bool { return n <= api.MaxBytes && len(script) < api.MaxScript }
	for {
		n := r.number(func(n int) bool { return n == end || startsRecord(n) })
		if r.failed {
			return nil
		}
		if n == end {
			r.number(func(n int) bool { return n == len(script) })
			r.next(exactly(feed))
			return script
		}
		script = append(script, r.line(n))
	}
}

// line reads what stands in a record after the number of its bytes, and returns the line.
func (r *reader) line(length int) string {
	start := r.at
	for range length {
		r.next(isPlain)
	}
	line := r.text[start:r.at]
	r.next(exactly(checkLetter(line)))
	r.next(exactly(feed))
	return line
}
