package tests

import (
	"fmt"
	"slices"
	"strconv"
	"strings"
	"testing"
	"unsafe"
)

const maxText = 100000

// dice are numbers that look like chance and are the same in each run.
type dice struct{ state uint64 }

func (d *dice) below(n int) int {
	d.state = d.state*6364136223846793005 + 1442695040888963407
	return int((d.state >> 33) % uint64(n))
}

// text is made of so many of the pieces.
func (d *dice) text(count int, pieces []string) string {
	var out strings.Builder
	for range count {
		out.WriteString(pieces[d.below(len(pieces))])
	}
	return out.String()
}

// short keeps what a test tells of long texts readable.
func short(text string) string {
	if len(text) > 200 {
		return strconv.Quote(text[:200]) + ".. (" + strconv.Itoa(len(text)) + ")"
	}
	return strconv.Quote(text)
}

func xs(n int) string { return strings.Repeat("x", n) }

func wantText(t *testing.T, call string, given, got, want string) {
	t.Helper()
	if got != want {
		t.Errorf("%s of %s: %s, want %s", call, short(given), short(got), short(want))
	}
}

// few keeps what a test tells of long lists readable.
func few(numbers []int64) string {
	if len(numbers) > 40 {
		return fmt.Sprint(numbers[:40], " .. (", len(numbers), ")")
	}
	return fmt.Sprint(numbers)
}

func wantNumbers(t *testing.T, call string, given string, got, want []int64) {
	t.Helper()
	if !slices.Equal(got, want) {
		t.Errorf("%s of %s: %s, want %s", call, short(given), few(got), few(want))
	}
}

// wantOwnMemory tells of texts of an answer that lie within a text that was handed in.
func wantOwnMemory(t *testing.T, call string, given string, answered ...string) {
	t.Helper()
	from := uintptr(unsafe.Pointer(unsafe.StringData(given)))
	for _, text := range answered {
		at := uintptr(unsafe.Pointer(unsafe.StringData(text)))
		if text != "" && from <= at && at < from+uintptr(len(given)) {
			t.Errorf("%s of %s: %s is a piece of the argument's memory", call, short(given), short(text))
		}
	}
}
