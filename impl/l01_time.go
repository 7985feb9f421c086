package impl

const MaxRate = 240000
const MaxDen = 1001
const MaxFrame = 10000000
const MaxUnit = 1000000

const (
	maxPerSecond = 120
	maxHours     = 99
	dropDen      = 1001
	dropSlow     = 30000
	dropFast     = 60000
	timeFields   = 4 // hours, minutes, seconds, frames
)

type Rate struct {
	Num  int64
	Den  int64
	Drop bool
}

func RateOk(r Rate) bool {
	if r.Num < 1 || r.Num > MaxRate || r.Den < 1 || r.Den > MaxDen {
		return false
	}
	if r.Num > maxPerSecond*r.Den || commonDivisor(r.Num, r.Den) != 1 {
		return false
	}
	return !r.Drop || r.Den == dropDen && (r.Num == dropSlow || r.Num == dropFast)
}

func Base(r Rate) int64 {
	if !RateOk(r) {
		return 0
	}
	return (r.Num + r.Den - 1) / r.Den
}

func TimeText(r Rate, frame int64) string {
	base := Base(r)
	if base == 0 || !isFrame(frame) {
		return ""
	}
	divisors := timeDivisors(base)
	rest := clockNumber(r, frame)
	if rest/divisors[0] > maxHours {
		return ""
	}
	text := make([]byte, 0, timeBytes(base))
	for field, divisor := range divisors {
		if field > 0 {
			text = append(text, byte(timeMark(r, field)))
		}
		text = appendDigits(text, rest/divisor, fieldDigits(base, field))
		rest %= divisor
	}
	return string(text)
}

func TimeRead(r Rate, text string) (int64, bool) {
	base := Base(r)
	if base == 0 || len(text) != timeBytes(base) {
		return 0, false
	}
	number, ok := readClock(r, text)
	if !ok {
		return 0, false
	}
	frame := clockFrame(r, number)
	// A text with a field past its end, or a number that was left out, is written in another way.
	if TimeText(r, frame) != text {
		return 0, false
	}
	return frame, true
}

func Instant(r Rate, frame int64, unit int64) int64 {
	if !RateOk(r) || !isFrame(frame) || unit < 1 || unit > MaxUnit {
		return -1
	}
	return frame * r.Den * unit / r.Num
}

func FrameIn(r Rate, s Rate, frame int64) int64 {
	if !RateOk(r) || !RateOk(s) || !isFrame(frame) {
		return -1
	}
	other := frame * r.Den * s.Num / (r.Num * s.Den)
	if !isFrame(other) {
		return -1
	}
	return other
}

func isFrame(n int64) bool {
	return 0 <= n && n <= MaxFrame
}

func commonDivisor(a int64, b int64) int64 {
	for b != 0 {
		a, b = b, a%b
	}
	return a
}

// leftOut is how many numbers Drop leaves out of a minute that is no multiple of 10.
func leftOut(r Rate) int64 {
	switch {
	case !r.Drop:
		return 0
	case r.Num == dropFast:
		return 4
	}
	return 2
}

// clockNumber counts the numbers that were left out too, so that plain division gives the fields.
func clockNumber(r Rate, frame int64) int64 {
	left := leftOut(r)
	whole := 60 * Base(r)
	short := whole - left
	tenMinutes := whole + 9*short
	number := frame + frame/tenMinutes*9*left
	rest := frame % tenMinutes
	if rest >= whole {
		number += ((rest-whole)/short + 1) * left
	}
	return number
}

// clockFrame takes back what clockNumber adds.
func clockFrame(r Rate, number int64) int64 {
	minutes := number / (60 * Base(r))
	return number - leftOut(r)*(minutes-minutes/10)
}

func timeDivisors(base int64) [timeFields]int64 {
	return [timeFields]int64{3600 * base, 60 * base, base, 1}
}

// timeMark is the sign that stands ahead of a field.
func timeMark(r Rate, field int) rune {
	if r.Drop && field == timeFields-1 {
		return ';'
	}
	return ':'
}

func fieldDigits(base int64, field int) int {
	if base > 100 && field == timeFields-1 {
		return 3
	}
	return 2
}

func timeBytes(base int64) int {
	n := timeFields - 1
	for field := range timeFields {
		n += fieldDigits(base, field)
	}
	return n
}

func appendDigits(text []byte, n int64, digits int) []byte {
	divisor := int64(1)
	for range digits - 1 {
		divisor *= 10
	}
	for ; divisor > 0; divisor /= 10 {
		text = append(text, byte('0'+n/divisor%10))
	}
	return text
}

// readClock takes a text of timeBytes at most: what its fields add up to is then far below the end of int64.
func readClock(r Rate, text string) (int64, bool) {
	divisors := timeDivisors(Base(r))
	field, number, part := 0, int64(0), int64(0)
	for _, sign := range text {
		switch {
		case '0' <= sign && sign <= '9':
			part = 10*part + int64(sign-'0')
		case field+1 < timeFields && sign == timeMark(r, field+1):
			number += part * divisors[field]
			part = 0
			field++
		default:
			return 0, false
		}
	}
	return number + part*divisors[field], true
}
