package desks_test

import (
	"math/rand/v2"
	"slices"
	"strconv"
	"strings"
	"testing"

	"handshape/api"
	"handshape/desks"
)

// recordOf is the record of a line.
func recordOf(line string) string {
	sum := 0
	for _, b := range []byte(line) {
		sum += int(b)
	}
	return digits(len(line)) + line + string("abcdefghijklmnopqrstuvwxyz"[sum%26]) + "\n"
}

// digits are those of a number below 100.
func digits(n int) string { return strconv.Itoa(100 + n)[1:] }

// fileOf is the file of a script.
func fileOf(script []string) string {
	text := ""
	for _, line := range script {
		text += recordOf(line)
	}
	return text + "99" + digits(len(script)) + "\n"
}

// longLine is a line of so many bytes.
func longLine(n int) string { return strings.Repeat("~", n) }

// drawPlain draws a script of at most some lines that can be written.
func drawPlain(r *rand.Rand, most int) []string {
	var script []string
	for range r.IntN(most + 1) {
		line := make([]byte, r.IntN(api.MaxBytes+1))
		for i := range line {
			line[i] = byte(32 + r.IntN(95))
		}
		script = append(script, string(line))
	}
	return script
}

// P12.3, P12.4
func TestWriteAndRead(t *testing.T) {
	for _, x := range []struct {
		script []string
		text   string
	}{
		{nil, "9900\n"}, {[]string{""}, "00a\n9901\n"}, {[]string{" "}, "01 g\n9901\n"}, {[]string{"ab"}, "02abn\n9901\n"}, {[]string{"~"}, "01~w\n9901\n"},
		{[]string{"0 order", "", "9"}, "070 orderw\n00a\n019f\n9903\n"}, {[]string{"99"}, "0299k\n9901\n"},
		{[]string{longLine(60)}, "60" + longLine(60) + "u\n9901\n"}, {slices.Repeat([]string{""}, 60), strings.Repeat("00a\n", 60) + "9960\n"},
		{slices.Repeat([]string{longLine(60)}, 60), strings.Repeat("60"+longLine(60)+"u\n", 60) + "9960\n"}, {slices.Repeat([]string{"a"}, 10), strings.Repeat("01at\n", 10) + "9910\n"},
	} {
		if text, e := desks.Write(x.script); text != x.text || e != api.OK {
			t.Errorf("Write of %q = %q, %d, want %q", x.script, text, e, x.text)
		}
		if script, at, e := desks.Read(x.text); !slices.Equal(script, x.script) || at != 0 || e != api.OK {
			t.Errorf("Read of %q = %q, %d, %d, want %q", x.text, script, at, e, x.script)
		}
	}
}

// P12.3: too many lines come before one that cannot be written.
func TestWriteErrors(t *testing.T) {
	for i, x := range []struct {
		script []string
		want   api.Errno
	}{
		{slices.Repeat([]string{""}, 61), api.ErrMany}, {slices.Repeat([]string{"\n"}, 61), api.ErrMany}, {slices.Repeat([]string{"\n"}, 60), api.ErrScript},
		{[]string{longLine(61)}, api.ErrScript}, {[]string{"a", longLine(61), "b"}, api.ErrScript}, {[]string{"a", "b", longLine(1000)}, api.ErrScript},
		{[]string{"\x1f"}, api.ErrScript}, {[]string{"\x7f"}, api.ErrScript}, {[]string{"a\x7f"}, api.ErrScript}, {[]string{"\x00"}, api.ErrScript}, {[]string{"a\nb"}, api.ErrScript},
		{[]string{"\tb"}, api.ErrScript}, {[]string{"\x80"}, api.ErrScript}, {[]string{"é"}, api.ErrScript}, {[]string{"\xff"}, api.ErrScript}, {[]string{"a", "", "\r"}, api.ErrScript},
	} {
		if text, e := desks.Write(x.script); text != "" || e != x.want {
			t.Errorf("%d: Write = %q, %d, want %d", i, text, e, x.want)
		}
	}
}

// P12.4: how many bytes of a text that is not a file begin one.
func TestReadErrors(t *testing.T) {
	for text, want := range map[string]int{
		"": 0, "0": 1, "5": 1, "6": 1, "9": 1, "99": 2, "990": 3, "9900": 4, "a": 0, " ": 0, "\n": 0, "7": 0, "8": 0, "-": 0, "\xff": 0, "/": 0, ":": 0,
		"61": 1, "69": 1, "60": 2, "0a": 1, "9 ": 1, "90": 1, "98": 1, "59": 2, "0:": 1, "0/": 1, "9:": 1, "01": 2, "1\n": 1,
		"9901\n": 3, "9910\n": 2, "99 0\n": 2, "990\n": 3, "9900 ": 4, "9900\r\n": 4, "9900\n ": 5, "9900\n\n": 5, "9900\n9900\n": 5, "9900\n00a\n9901\n": 5,
		"00": 2, "00a": 3, "00b\n": 2, "00A\n": 2, "00a ": 3, "00a\n": 4, "00a\n9900\n": 7, "00a\n9902\n": 7, "00a\n9911\n": 6, "00a\n9901": 8, "00a\n9901\n\x00": 9,
		"02ab": 4, "02abn": 5, "02abm\n": 4, "02abo\n": 4, "02a\n": 3, "02a\x1f": 3, "02a\x7f": 3, "02a\x80": 3, "03abn\n9901\n": 5, "01abn\n9901\n": 3, "02abn\n02abn\n9901\n": 15, "02abn\n02abx": 10,
		strings.Repeat("00a\n", 60): 240, strings.Repeat("00a\n", 60) + "00a\n9961\n": 240, strings.Repeat("00a\n", 60) + "6": 240, strings.Repeat("00a\n", 60) + "9": 241,
		strings.Repeat("00a\n", 60) + "9961\n": 243, strings.Repeat("00a\n", 60) + "9960": 244, strings.Repeat("00a\n", 59) + "6": 237, strings.Repeat("00a\n", 59) + "9960\n": 238,
		"60" + longLine(60): 62, "60" + longLine(61): 62, "60" + longLine(60) + "u": 63, "61" + longLine(61): 1,
	} {
		if script, at, e := desks.Read(text); len(script) > 0 || at != want || e != api.ErrText {
			t.Errorf("Read of %q = %q, %d, %d, want %d", text, script, at, e, want)
		}
	}
}

// beginsFile reports whether a text begins a file, by the files of which it can be the beginning.
func beginsFile(text string) bool {
	for lines := 0; lines <= api.MaxScript; lines++ {
		if strings.HasPrefix("99"+digits(lines)+"\n", text) {
			return true
		}
		if lines == api.MaxScript {
			return false
		}
		begun, rest := beginsRecord(text)
		if begun || rest == text {
			return begun
		}
		text = rest
	}
	return false
}

// beginsRecord reports whether a text begins a record, and returns what is left of it after a whole one.
func beginsRecord(text string) (begun bool, rest string) {
	for n := range api.MaxBytes + 1 {
		line := text[min(2, len(text)):min(2+n, len(text))]
		if strings.ContainsFunc(line, func(c rune) bool { return c < 32 || c > 126 }) {
			continue
		}
		record := recordOf(line + strings.Repeat("x", n-len(line)))
		if strings.HasPrefix(record, text) {
			return true, ""
		}
		if strings.HasPrefix(text, record) {
			return false, text[len(record):]
		}
	}
	return false, text
}

// wantAt goes through all beginnings of a text.
func wantAt(text string) int {
	at := 0
	for n := range len(text) + 1 {
		if beginsFile(text[:n]) {
			at = n
		}
	}
	return at
}

// spoiled is a text with one byte replaced, removed or added.
func spoiled(r *rand.Rand, text string) string {
	b := []byte(text)
	i := r.IntN(len(b))
	one := "0126999a\n ~\x7f\xff"[r.IntN(13)]
	switch r.IntN(3) {
	case 0:
		b[i] = one
	case 1:
		b = slices.Delete(b, i, i+1)
	case 2:
		b = slices.Insert(b, i, one)
	}
	return string(b)
}

// P12.4: at is the greatest number of bytes that begin a file.
func TestHowMuchBeginsAFile(t *testing.T) {
	r := chance()
	wrong := 0
	for range 300 {
		script := drawPlain(r, 5)
		if r.IntN(10) == 0 {
			script = slices.Repeat([]string{"", "a"}, 30)
		}
		text := spoiled(r, fileOf(script))
		if r.IntN(3) == 0 {
			text = spoiled(r, text)
		}
		read, at, e := desks.Read(text)
		if e == api.OK {
			if at != 0 || fileOf(read) != text {
				t.Errorf("Read of %q = %q, %d", text, read, at)
			}
			continue
		}
		wrong++
		if want := wantAt(text); e != api.ErrText || len(read) > 0 || at != want {
			t.Errorf("Read of %q = %q, %d, %d, want %d", text, read, at, e, want)
		}
	}
	if wrong < 200 {
		t.Errorf("%d texts are not files", wrong)
	}
}

// P12.11: Read of the file of a script returns the script.
func TestReplayed(t *testing.T) {
	r := chance()
	for range 300 {
		script := drawPlain(r, api.MaxScript)
		text, e := desks.Write(script)
		if text != fileOf(script) || e != api.OK {
			t.Errorf("Write of %q = %q, %d", script, text, e)
		}
		if read, at, e := desks.Read(text); !slices.Equal(read, script) || at != 0 || e != api.OK {
			t.Errorf("Read of %q = %q, %d, %d", text, read, at, e)
		}
	}
}

// P12.11: if a file is cut off, all that is left begins one; if something follows it, the file does.
func TestCutFile(t *testing.T) {
	r := chance()
	for range 30 {
		text := fileOf(drawPlain(r, 20))
		for n := range len(text) {
			if script, at, e := desks.Read(text[:n]); len(script) > 0 || at != n || e != api.ErrText {
				t.Errorf("Read of %q = %q, %d, %d", text[:n], script, at, e)
			}
		}
		for _, more := range []string{"\n", " ", "9", "9900\n", text, "\x00", strings.Repeat("\n", 1000)} {
			if script, at, e := desks.Read(text + more); len(script) > 0 || at != len(text) || e != api.ErrText {
				t.Errorf("Read of %q and %q = %q, %d, %d", text, more, script, at, e)
			}
		}
	}
}

// P12.11: if one byte is another one, the beginning before it is still one, or it is the file of another script.
func TestOneByte(t *testing.T) {
	r := chance()
	others := 0
	for range 10 {
		script := drawPlain(r, 4)
		text := fileOf(script)
		for i := range len(text) {
			for b := range 256 {
				if byte(b) == text[i] {
					continue
				}
				changed := text[:i] + string([]byte{byte(b)}) + text[i+1:]
				read, at, e := desks.Read(changed)
				switch {
				case e == api.OK && at == 0 && !slices.Equal(read, script) && fileOf(read) == changed:
					others++
				case e != api.ErrText || len(read) > 0 || at < i:
					t.Errorf("Read of %q = %q, %d, %d, but the byte %d is another one", changed, read, at, e, i)
				}
			}
		}
	}
	if others < 100 {
		t.Errorf("%d texts are files of other scripts", others)
	}
}
