package console

import (
	"strconv"
	"strings"

	"gabion/api"
	"gabion/sum"
)

// widest is how far from 0 a number may be that is given on as an int.
const widest = 1 << 30

// wrong: an error's line.
func wrong(e api.Errno) string { return "error " + strconv.Itoa(int(e)) }

// done: the line of what answers nothing but an error.
func done(e api.Errno) string { return told(e, "ok") }

// told: a word and numbers; or the error.
func told(e api.Errno, word string, nums ...int64) string {
	if e != api.OK {
		return wrong(e)
	}
	return Order{Word: word, Nums: nums}.Show()
}

// listed: a word, how many names, and each; or the error.
func listed(e api.Errno, word string, names []string) string {
	if e != api.OK {
		return wrong(e)
	}
	return strings.Join(append([]string{word, strconv.Itoa(len(names))}, names...), " ")
}

// summed: how many bytes were read, and their sum; or the error.
func summed(e api.Errno, data []byte) string {
	return told(e, "bytes", int64(len(data)), int64(sum.Of(data)))
}

// flag: 1 or 0.
func flag(is bool) int64 {
	if is {
		return 1
	}
	return 0
}

// cut: a number as an int, no further from 0 than may be.
func cut(n int64) int { return int(max(-widest, min(n, widest))) }

// low: the numbers' lowest 8 bits.
func low(nums []int64) []byte {
	var b []byte
	for _, n := range nums {
		b = append(b, byte(n))
	}
	return b
}

// filled: the bytes behind the first, four times as often as that says, till there are more than may be written at once.
func filled(b []byte) []byte {
	var data []byte
	if len(b) == 0 {
		return nil
	}
	for range 4 * int(b[0]) {
		if len(data) > api.MaxIO {
			break
		}
		data = append(data, b[1:]...)
	}
	return data
}
