package tests

import (
	"fmt"
	"math"
	"math/rand"
	"strings"
	"testing"

	"loop.example/cotterpin/impl"
)

// slowWeavePut takes the first byte off each row until there are none.
func slowWeavePut(s string, rows int) string {
	var list []string
	for n := range rows {
		list = append(list, s[n*len(s)/rows:(n+1)*len(s)/rows])
	}
	out := ""
	for len(out) < len(s) {
		for n := range list {
			out += list[n][:1]
			list[n] = list[n][1:]
		}
	}
	return out
}

// slowWeaveGet deals bytes out to the rows in turn.
func slowWeaveGet(s string, rows int) string {
	list := make([]string, rows)
	for i := range len(s) {
		list[i%rows] += s[i : i+1]
	}
	return strings.Join(list, "")
}

// fits says whether so many bytes fill so many rows.
func fits(many, rows int) bool {
	return many >= 0 && many <= 600 && rows >= 1 && rows <= 16 && many%rows == 0
}

// noRows returns numbers of rows that there cannot be.
func noRows() []int {
	return []int{0, -1, 17, 18, 32, -16, 600, 601, math.MaxInt, math.MinInt, math.MinInt + 1}
}

func wovenIs(t *testing.T, s string, rows int, want string, wanted bool) {
	t.Helper()
	got, ok := impl.WeavePut(s, rows)
	sameOk(t, fmt.Sprintf("weave put of %s in %d rows", shown(s), rows), got, ok, want, wanted)
}

func unwovenIs(t *testing.T, s string, rows int, want string, wanted bool) {
	t.Helper()
	got, ok := impl.WeaveGet(s, rows)
	sameOk(t, fmt.Sprintf("weave get of %s in %d rows", shown(s), rows), got, ok, want, wanted)
}

// unfit checks that neither function takes a text.
func unfit(t *testing.T, s string, rows int) {
	t.Helper()
	wovenIs(t, s, rows, "", false)
	unwovenIs(t, s, rows, "", false)
}

func TestWeaveLimits(t *testing.T) {
	same(t, "RowsMax", impl.RowsMax, 16)
}

func TestWeaveRowsAndColumns(t *testing.T) {
	for _, x := range []struct {
		text  string
		rows  int
		woven string
	}{
		{"abcdef", 1, "abcdef"}, {"abcdef", 2, "adbecf"}, {"abcdef", 3, "acebdf"}, {"abcdef", 6, "abcdef"},
		{"abcd", 2, "acbd"}, {"ab", 1, "ab"}, {"ab", 2, "ab"}, {"a", 1, "a"}, {"", 1, ""}, {"", 16, ""},
		{"abcdefghijkl", 3, "aeibfjcgkdhl"}, {"abcdefghijkl", 4, "adgjbehkcfil"}, {"\x00\xff\x80\x7f", 2, "\x00\x80\xff\x7f"},
		{"abcdefghijklmnop", 16, "abcdefghijklmnop"}, {"äö", 2, "\xc3\xc3\xa4\xb6"},
	} {
		wovenIs(t, x.text, x.rows, x.woven, true)
		unwovenIs(t, x.woven, x.rows, x.text, true)
	}
}

// Every length and number of rows, also those that do not fit.
func TestWeaveFollowsTheDocument(t *testing.T) {
	source := rand.New(rand.NewSource(75))
	for many := range 620 {
		s := mixedBytes(source, many)
		for rows := -1; rows <= 18; rows++ {
			if !fits(many, rows) {
				unfit(t, s, rows)
				continue
			}
			wovenIs(t, s, rows, slowWeavePut(s, rows), true)
			unwovenIs(t, s, rows, slowWeaveGet(s, rows), true)
		}
	}
}

// Promise 60.
func TestWeaveIsInvertible(t *testing.T) {
	source := rand.New(rand.NewSource(76))
	for many := range 601 {
		s := mixedBytes(source, many)
		for rows := 1; rows <= 16; rows++ {
			if !fits(many, rows) {
				continue
			}
			woven, ok := impl.WeavePut(s, rows)
			same(t, "whether a text that fits is woven", ok, true)
			unwovenIs(t, woven, rows, s, true)
		}
		wovenIs(t, s, 1, s, true)
		if many >= 1 && many <= 16 {
			wovenIs(t, s, many, s, true)
		}
	}
}

// Promise 61.
func TestWeaveGetIsInvertible(t *testing.T) {
	source := rand.New(rand.NewSource(77))
	for many := range 601 {
		s := mixedBytes(source, many)
		for rows := 1; rows <= 16; rows++ {
			if !fits(many, rows) {
				continue
			}
			text, ok := impl.WeaveGet(s, rows)
			same(t, "whether a text that fits is unwoven", ok, true)
			wovenIs(t, text, rows, s, true)
			if columns := many / rows; columns >= 1 && columns <= 16 {
				wovenIs(t, s, columns, text, true)
			}
		}
	}
}

func TestWeaveAtTheEdges(t *testing.T) {
	full := strings.Repeat("abcdefghij", 60)
	for rows := 1; rows <= 16; rows++ {
		wovenIs(t, "", rows, "", true)
		unwovenIs(t, "", rows, "", true)
	}
	wovenIs(t, full, 1, full, true)
	wovenIs(t, full, 10, slowWeavePut(full, 10), true)
	unwovenIs(t, full, 15, slowWeaveGet(full, 15), true)
	for _, rows := range []int{1, 2, 4, 5, 8, 10, 12, 15, 16} {
		unfit(t, full+"a", rows)
		unfit(t, strings.Repeat(full, 2), rows)
		unfit(t, full+strings.Repeat("a", rows), rows)
	}
	wovenIs(t, full[:592], 16, slowWeavePut(full[:592], 16), true)
	unfit(t, full[:592]+"a", 16)
	unfit(t, full[:591], 16)
	for _, s := range []string{"", "a", "abcdefghijklmnopq", full[:578], full} {
		for _, rows := range noRows() {
			unfit(t, s, rows)
		}
	}
	unfit(t, "abc", 2)
	unfit(t, "abcdefg", 3)
	unfit(t, "a", 2)
	unfit(t, "a", 16)
}

// Promise 62.
func TestWeaveAtDescribesThePermutation(t *testing.T) {
	source := rand.New(rand.NewSource(78))
	for many := 1; many <= 600; many++ {
		if many > 60 && many%16 > 0 && many%30 > 0 {
			continue
		}
		s := mixedBytes(source, many)
		for rows := 1; rows <= 16; rows++ {
			if !fits(many, rows) {
				continue
			}
			woven, _ := impl.WeavePut(s, rows)
			seen := map[int]bool{}
			before := -1
			for at := range many {
				place := impl.WeaveAt(many, rows, at)
				what := fmt.Sprintf("place of %d of %d in %d rows", at, many, rows)
				if place < 0 || place >= many || seen[place] {
					t.Fatalf("%s is %d", what, place)
				}
				seen[place] = true
				same(t, what, place, at%(many/rows)*rows+at/(many/rows))
				same(t, "byte at "+what, woven[place], s[at])
				if at > 0 && rows > 1 && many > rows && place == before+1 {
					t.Fatalf("%s is %d, directly behind the one before", what, place)
				}
				before = place
			}
		}
	}
}

func TestWeaveAtOfPlaces(t *testing.T) {
	for _, x := range []struct{ many, rows, at, want int }{
		{6, 2, 0, 0}, {6, 2, 1, 2}, {6, 2, 2, 4}, {6, 2, 3, 1}, {6, 2, 4, 3}, {6, 2, 5, 5},
		{1, 1, 0, 0}, {600, 1, 599, 599}, {600, 2, 1, 2}, {600, 2, 300, 1}, {600, 15, 599, 599}, {600, 15, 40, 1}, {16, 16, 7, 7}, {592, 16, 37, 1},
		{6, 2, -1, -1}, {6, 2, 6, -1}, {6, 2, 7, -1}, {6, 2, math.MaxInt, -1}, {6, 2, math.MinInt, -1},
		{0, 1, 0, -1}, {0, 2, 0, -1}, {0, 1, -1, -1}, {0, 16, 1, -1}, {1, 1, 1, -1}, {1, 1, -1, -1},
		{600, 1, 600, -1}, {600, 1, -1, -1}, {601, 1, 0, -1}, {601, 1, 600, -1}, {602, 2, 1, -1}, {608, 16, 0, -1}, {math.MaxInt, 1, 0, -1},
		{-1, 1, 0, -1}, {-1, 1, -1, -1}, {-2, 1, -2, -1}, {-6, 2, 0, -1}, {-6, 2, -3, -1}, {-6, 2, -7, -1}, {math.MinInt, 1, 0, -1}, {math.MinInt, 2, math.MinInt, -1},
		{6, 4, 1, -1}, {7, 2, 0, -1}, {1, 2, 0, -1}, {600, 7, 0, -1}, {600, 16, 0, -1},
	} {
		same(t, fmt.Sprintf("place of %d of %d in %d rows", x.at, x.many, x.rows), impl.WeaveAt(x.many, x.rows, x.at), x.want)
	}
	for _, rows := range noRows() {
		for _, many := range []int{-1, 0, 1, 17, 34, 544, 600, 601} {
			for _, at := range []int{-1, 0, 1, many - 1, many} {
				same(t, fmt.Sprintf("place of %d of %d in %d rows", at, many, rows), impl.WeaveAt(many, rows, at), -1)
			}
		}
	}
}
