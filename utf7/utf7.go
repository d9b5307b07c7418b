// Package utf7: names in letters that go everywhere.
package utf7

import (
	"strings"
	"unicode/utf8"

	"letterbox/api"
)

// letters has a letter for each value of six bits.
const letters = "ABCDEFGHIJKLMNOPQRSTUVWXYZabcdefghijklmnopqrstuvwxyz0123456789+,"

// Right says whether a name may be: UTF-8, no rune below 32, and none of 127 to 159, 1 to MaxName bytes.
func Right(s string) bool {
	if len(s) < 1 || len(s) > api.MaxName || !utf8.ValidString(s) {
		return false
	}
	for _, r := range s {
		if r < 32 || r >= 127 && r <= 159 {
			return false
		}
	}
	return true
}

// Encode writes a name: letters from 32 to 126 as they are, but & as &-; others, as many as stand beside one another, as &, units of sixteen bits in letters of six, and -. ErrArg: it may not be.
func Encode(s string) (string, error) {
	if !Right(s) {
		return "", api.ErrArg
	}
	var out []byte
	var waiting []uint16
	writeWaiting := func() {
		if len(waiting) == 0 {
			return
		}
		out = append(out, '&')
		out = appendLetters(out, waiting)
		out = append(out, '-')
		waiting = nil
	}
	for _, r := range s {
		if r > 126 {
			waiting = appendUnits(waiting, r)
			continue
		}
		writeWaiting()
		out = append(out, byte(r))
		if r == '&' {
			out = append(out, '-')
		}
	}
	writeWaiting()
	return string(out), nil
}

// Decode reads a name: that of which Encode tells just s. ErrForm.
func Decode(s string) (string, error) {
	name, ok := read(s)
	if !ok {
		return "", api.ErrForm
	}
	// read takes more than Encode writes (bits that are left over, units without their other half, bytes above 126); writing the name again tells all of that apart.
	again, err := Encode(name)
	if err != nil || again != s {
		return "", api.ErrForm
	}
	return name, nil
}

// appendUnits adds a rune's units.
func appendUnits(units []uint16, r rune) []uint16 {
	if r <= 0xffff {
		return append(units, uint16(r))
	}
	above := r - 0x10000
	return append(units, uint16(0xd800+above>>10), uint16(0xdc00+above&0x3ff))
}

// appendLetters adds the units' bits, six a letter.
func appendLetters(out []byte, units []uint16) []byte {
	var bits uint32 // of which the lowest count ones are not written yet
	count := 0
	for _, u := range units {
		bits = bits<<16 | uint32(u)
		count += 16
		for count >= 6 {
			count -= 6
			out = append(out, letters[bits>>count&63])
		}
	}
	if count > 0 {
		out = append(out, letters[bits<<(6-count)&63])
	}
	return out
}

// read reads what may be a name's writing; false: it is none, however loosely it is taken.
func read(s string) (string, bool) {
	var out []byte
	for len(s) > 0 {
		if s[0] != '&' {
			out = append(out, s[0])
			s = s[1:]
			continue
		}
		end := strings.IndexByte(s, '-')
		if end < 0 {
			return "", false
		}
		if end == 1 {
			out = append(out, '&')
		} else {
			units, ok := readUnits(s[1:end])
			if !ok {
				return "", false
			}
			out = appendRunes(out, units)
		}
		s = s[end+1:]
	}
	return string(out), true
}

// readUnits reads units out of letters; bits that are left over are dropped. false: one is no letter of theirs.
func readUnits(text string) ([]uint16, bool) {
	var units []uint16
	var bits uint32 // of which the lowest count ones are not in a unit yet
	count := 0
	for i := range len(text) {
		value := strings.IndexByte(letters, text[i])
		if value < 0 {
			return nil, false
		}
		bits = bits<<6 | uint32(value)
		count += 6
		if count >= 16 {
			count -= 16
			units = append(units, uint16(bits>>count))
		}
	}
	return units, true
}

// appendRunes adds the runes of units, as UTF-8; a half without its other one becomes the rune for what is no rune.
func appendRunes(out []byte, units []uint16) []byte {
	for i := 0; i < len(units); i++ {
		r := rune(units[i])
		if isUpper(units[i]) && i+1 < len(units) && isLower(units[i+1]) {
			r = 0x10000 + (r-0xd800)<<10 + rune(units[i+1]) - 0xdc00
			i++
		}
		out = utf8.AppendRune(out, r)
	}
	return out
}

// isUpper says whether a unit has the upper bits of a rune above ffff.
func isUpper(u uint16) bool { return u >= 0xd800 && u <= 0xdbff }

// isLower says whether a unit has the lower bits of one.
func isLower(u uint16) bool { return u >= 0xdc00 && u <= 0xdfff }
