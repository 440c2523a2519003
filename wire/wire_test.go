package wire_test

import (
	"encoding/binary"
	"math"
	"strings"
	"testing"
	"unsafe"

	"gneiss/api"
	"gneiss/wire"
)

const (
	least = -1 << 31
	most  = 1<<31 - 1
)

// numbers calls with the numbers at which a sign or a count of bytes turns, with their neighbours, and with a fixed
// row of others of all sizes.
func numbers(with func(x int)) {
	for shift := range 32 {
		for near := -2; near <= 2; near++ {
			for _, x := range []int{1<<shift + near, -1<<shift + near} {
				if x >= least && x <= most {
					with(x)
				}
			}
		}
	}
	row := row(3)
	for range 20000 {
		with(int(int32(row.next())) >> (row.next() % 32))
	}
}

type row uint64

func (r *row) next() uint32 {
	*r = *r*6364136223846793005 + 1442695040888963407
	return uint32(*r >> 32)
}

func wantNum(t *testing.T, s string, at, number, behind int, code api.Errno) {
	t.Helper()
	gotNumber, gotBehind, gotCode := wire.GetNum(s, at)
	if gotNumber != number || gotBehind != behind || gotCode != code {
		t.Fatalf("GetNum(%q, %d) = %d, %d, %d; want %d, %d, %d",
			s, at, gotNumber, gotBehind, gotCode, number, behind, code)
	}
}

func wantText(t *testing.T, s string, at, most int, text string, behind int, code api.Errno) {
	t.Helper()
	gotText, gotBehind, gotCode := wire.GetText(s, at, most)
	if gotText != text || gotBehind != behind || gotCode != code {
		t.Fatalf("GetText(%q, %d, %d) = %q, %d, %d; want %q, %d, %d",
			s, at, most, gotText, gotBehind, gotCode, text, behind, code)
	}
}

func TestP2_1PutNumExamples(t *testing.T) {
	for _, row := range []struct {
		x    int
		want string
	}{
		{0, "\x00"}, {-1, "\x01"}, {1, "\x02"}, {-2, "\x03"}, {2, "\x04"}, {63, "\x7e"}, {-64, "\x7f"},
		{64, "\x80\x01"}, {-65, "\x81\x01"}, {150, "\xac\x02"}, {8191, "\xfe\x7f"}, {-8192, "\xff\x7f"},
		{8192, "\x80\x80\x01"}, {-8193, "\x81\x80\x01"}, {1<<20 - 1, "\xfe\xff\x7f"}, {1 << 20, "\x80\x80\x80\x01"},
		{1<<27 - 1, "\xfe\xff\xff\x7f"}, {1 << 27, "\x80\x80\x80\x80\x01"}, {-1<<27 - 1, "\x81\x80\x80\x80\x01"},
		{most, "\xfe\xff\xff\xff\x0f"}, {least, "\xff\xff\xff\xff\x0f"},
	} {
		if got := wire.PutNum(row.x); got != row.want {
			t.Errorf("PutNum(%d) = %q, want %q", row.x, got, row.want)
		}
	}
}

func TestP2_1PutNumIsTheZigzagForm(t *testing.T) {
	numbers(func(x int) {
		if got, want := wire.PutNum(x), string(binary.AppendVarint(nil, int64(x))); got != want {
			t.Fatalf("PutNum(%d) = %q, want %q", x, got, want)
		}
	})
}

func TestP2_1PutNumOfNoNumber(t *testing.T) {
	for _, x := range []int{
		least - 1, most + 1, 1 << 32, 1<<32 + 1, -1 << 32, 1 << 40, math.MinInt64, math.MaxInt64,
	} {
		if got := wire.PutNum(x); got != "" {
			t.Errorf("PutNum(%d) = %q, want none", x, got)
		}
	}
}

func TestP2_1GetNumCut(t *testing.T) {
	for _, at := range []int{-1, 4, 5, 1 << 32, -1 << 32, math.MinInt64, math.MaxInt64} {
		wantNum(t, "\x00\x00\x00", at, 0, 0, api.ErrWireCut)
	}
	wantNum(t, "\x00\x00\x00", 3, 0, 0, api.ErrWireCut)
	wantNum(t, "", 0, 0, 0, api.ErrWireCut)
	numbers(func(x int) {
		bytes := wire.PutNum(x)
		for size := range len(bytes) {
			wantNum(t, bytes[:size], 0, 0, 0, api.ErrWireCut)
			wantNum(t, "\x00\xff"+bytes[:size], 2, 0, 0, api.ErrWireCut)
		}
	})
}

func TestP2_1GetNumForm(t *testing.T) {
	for _, s := range []string{
		"\x80\x00", "\x81\x00", "\xff\x00", "\x80\x80\x00", "\x81\x80\x80\x00", "\xff\xff\xff\xff\x00",
		"\xff\xff\xff\xff\x10", "\x80\x80\x80\x80\x10", "\x80\x80\x80\x80\x7f", "\xff\xff\xff\xff\x1f",
		"\x80\x80\x80\x80\x80", "\x80\x80\x80\x80\x81", "\xff\xff\xff\xff\x8f", "\xff\xff\xff\xff\xff",
		"\x80\x80\x80\x80\x80\x01", "\x80\x80\x80\x80\x80\x80\x80\x80\x80\x01", strings.Repeat("\xff", 100),
	} {
		wantNum(t, s, 0, 0, 0, api.ErrWireForm)
		wantNum(t, s+"\x01\x01\x01\x01\x01\x01", 0, 0, 0, api.ErrWireForm)
		wantNum(t, "\x02"+s, 1, 0, 0, api.ErrWireForm)
	}
}

// wantOf reads s by the library's reader and by the promise's words about what that takes besides.
func wantOf(s string) (int, int, api.Errno) {
	x, size := binary.Varint([]byte(s))
	switch {
	case size == 0 && len(s) < 5:
		return 0, 0, api.ErrWireCut
	case size <= 0 || size > 5 || x < least || x > most || size > 1 && s[size-1] == 0:
		return 0, 0, api.ErrWireForm
	}
	return int(x), size, api.OK
}

func TestP2_1GetNumOfAnyBytes(t *testing.T) {
	check := func(s string) {
		number, behind, code := wantOf(s)
		wantNum(t, s, 0, number, behind, code)
	}
	for first := range 256 {
		check(string([]byte{byte(first)}))
		for second := range 256 {
			check(string([]byte{byte(first), byte(second)}))
		}
		for _, ahead := range []string{"\x80\x80", "\xff\x80", "\x80\x80\x80", "\xff\xff\xff\xff", "\x80\x80\x80\x80"} {
			check(ahead + string([]byte{byte(first)}))
		}
	}
	row := row(11)
	for range 50000 {
		bytes := make([]byte, row.next()%8)
		for i := range bytes {
			bytes[i] = byte(row.next())
			if row.next()%4 > 0 {
				bytes[i] |= 128
			}
		}
		check(string(bytes))
	}
}

func TestP2_2PutText(t *testing.T) {
	for _, row := range []struct{ s, want string }{
		{"", "\x00"}, {"a", "\x02a"}, {"ab", "\x04ab"}, {"\x00\xff\x80", "\x06\x00\xff\x80"},
		{strings.Repeat("x", 63), "\x7e" + strings.Repeat("x", 63)},
		{strings.Repeat("x", 64), "\x80\x01" + strings.Repeat("x", 64)},
		{strings.Repeat("y", api.MaxText), "\x80\x80\x08" + strings.Repeat("y", api.MaxText)},
	} {
		if got := wire.PutText(row.s); got != row.want {
			t.Errorf("PutText of %d bytes = %.20q, want %.20q", len(row.s), got, row.want)
		}
	}
}

func TestP2_2GetText(t *testing.T) {
	wantText(t, "\x04abc", 0, 2, "ab", 3, api.OK)
	wantText(t, "\x04abc", 0, 1000, "ab", 3, api.OK)
	wantText(t, "\x04abc", 0, math.MaxInt64, "ab", 3, api.OK)
	wantText(t, "zz\x04ab", 2, 2, "ab", 5, api.OK)
	wantText(t, "\x00", 0, 0, "", 1, api.OK)
	wantText(t, "\x06\x00\xff\x80", 0, 3, "\x00\xff\x80", 4, api.OK)
}

func TestP2_2GetTextErrors(t *testing.T) {
	for _, at := range []int{-1, 3, 4, 1 << 32, math.MinInt64, math.MaxInt64} {
		wantText(t, "\x00\x00\x00", at, 9, "", 0, api.ErrWireCut)
	}
	wantText(t, "", 0, 9, "", 0, api.ErrWireCut)
	wantText(t, "\x80", 0, 9, "", 0, api.ErrWireCut)
	wantText(t, "\x84\x00ab", 0, 9, "", 0, api.ErrWireForm)
	wantText(t, "\x80\x80\x80\x80\x10", 0, 9, "", 0, api.ErrWireForm)

	wantText(t, "\x01ab", 0, 9, "", 0, api.ErrWireText)
	wantText(t, "\xff\xff\xff\xff\x0f", 0, 9, "", 0, api.ErrWireText)
	wantText(t, "\x04ab", 0, 1, "", 0, api.ErrWireText)
	wantText(t, "\x00", 0, -1, "", 0, api.ErrWireText)
	wantText(t, "\x00", 0, math.MinInt64, "", 0, api.ErrWireText)

	wantText(t, "\x04a", 0, 2, "", 0, api.ErrWireCut)
	wantText(t, "\x02", 0, 2, "", 0, api.ErrWireCut)
	wantText(t, "abcdef\x08abc", 6, 4, "", 0, api.ErrWireCut)
	wantText(t, "\xfe\xff\xff\xff\x0fabc", 0, math.MaxInt64, "", 0, api.ErrWireCut)
}

func TestP2_2TheFirstNamedErrorIsAnswered(t *testing.T) {
	wantText(t, "\x80\x00", 0, -1, "", 0, api.ErrWireForm)
	wantText(t, "\x80", 0, -1, "", 0, api.ErrWireCut)
	wantText(t, "\x00", 2, -1, "", 0, api.ErrWireCut)
	wantText(t, "\x06a", 0, 2, "", 0, api.ErrWireText)
	wantText(t, "\x03", 0, 2, "", 0, api.ErrWireText)
}

func TestP2_2TextsShareNoMemory(t *testing.T) {
	source := wire.PutText("some text of a fair length")
	text, _, _ := wire.GetText(source, 0, 100)
	if unsafe.StringData(text) == unsafe.StringData(source[1:]) {
		t.Error("the answer lies within the argument")
	}
	put := wire.PutText(text)
	if unsafe.StringData(put[1:]) == unsafe.StringData(text) {
		t.Error("the answer holds the argument's memory")
	}
}

func TestP2_3NumbersThereAndBack(t *testing.T) {
	all := ""
	ends := []int{}
	kept := []int{}
	numbers(func(x int) {
		bytes := wire.PutNum(x)
		wantNum(t, bytes, 0, x, len(bytes), api.OK)
		wantNum(t, "\x80\x80"+bytes+"\x80\x00", 2, x, 2+len(bytes), api.OK)
		if len(kept) < 1000 {
			all += bytes
			kept, ends = append(kept, x), append(ends, len(all))
		}
	})
	at := 0
	for i, x := range kept {
		wantNum(t, all, at, x, ends[i], api.OK)
		at = ends[i]
	}
}

func TestP2_3WhatIsTakenIsPutTheSame(t *testing.T) {
	row := row(5)
	for range 50000 {
		bytes := make([]byte, 6)
		for i := range bytes {
			bytes[i] = byte(row.next() >> (row.next() % 8))
		}
		x, behind, code := wire.GetNum(string(bytes), 0)
		if code == api.OK && wire.PutNum(x) != string(bytes[:behind]) {
			t.Fatalf("%q is taken as %d, which is %q", bytes, x, wire.PutNum(x))
		}
	}
}

func TestP2_3TextsThereAndBack(t *testing.T) {
	row := row(9)
	for size := range 300 {
		bytes := make([]byte, size)
		for i := range bytes {
			bytes[i] = byte(row.next())
		}
		text := string(bytes)
		s := wire.PutNum(-size) + wire.PutText(text) + "rest"
		_, at, _ := wire.GetNum(s, 0)
		wantText(t, s, at, size, text, len(s)-4, api.OK)
		if size > 0 {
			wantText(t, s, at, size-1, "", 0, api.ErrWireText)
			wantText(t, s[:len(s)-5], at, size, "", 0, api.ErrWireCut)
		}
	}
	long := strings.Repeat("\x80", 1<<20)
	wantText(t, wire.PutText(long), 0, 1<<20, long, 1<<20+4, api.OK)
}
