package value_test

import (
	"bytes"
	"math"
	"slices"
	"strings"
	"testing"

	"foreman/api"
	"foreman/value"
)

// P8.4

func TestShowOfRightValues(t *testing.T) {
	for _, v := range rights() {
		if s := value.Show(v); s != shownOf(v) {
			t.Errorf("Show: %s, want %s", s, shownOf(v))
		}
	}
}

func TestShowOfNumbers(t *testing.T) {
	for _, c := range []struct {
		n    int64
		want string
	}{{0, "0"}, {5, "5"}, {-5, "-5"}, {10, "10"}, {1000000, "1000000"}, {math.MaxInt64, "9223372036854775807"}, {math.MinInt64, "-9223372036854775808"}} {
		if s := value.Show(number(c.n)); s != c.want {
			t.Errorf("Show(%d): %s", c.n, s)
		}
	}
}

func TestShowOfEachByte(t *testing.T) {
	for c := range 256 {
		want := "%" + strings.ToUpper(string([]byte{"0123456789abcdef"[c/16], "0123456789abcdef"[c%16]}))
		if c >= '!' && c <= '~' && c != '"' && c != '%' {
			want = string(rune(c))
		}
		b := string([]byte{byte(c)})
		if s := value.Show(text(b)); s != `"`+want+`"` {
			t.Errorf("Show of a text of the byte %d: %s, want %s", c, s, want)
		}
		if s := value.Show(text("a" + b + b + "z")); s != `"a`+want+want+`z"` {
			t.Errorf("Show of a text with the byte %d: %s", c, s)
		}
		if s := value.Show(list(text(b), text(b))); s != `["`+want+`","`+want+`"]` {
			t.Errorf("Show of a list of texts of the byte %d: %s", c, s)
		}
	}
}

func TestShowOfTexts(t *testing.T) {
	for _, c := range []struct{ s, want string }{
		{"", `""`}, {"a b", `"a%20b"`}, {"%20", `"%2520"`}, {`"`, `"%22"`}, {"[1,2]", `"[1,2]"`}, {"\\n\n", `"\n%0A"`}, {"\u00e9", `"%C3%A9"`}, {"\x7f~", `"%7F~"`}, {"\xff", `"%FF"`},
	} {
		if s := value.Show(text(c.s)); s != c.want {
			t.Errorf("Show(%q): %s, want %s", c.s, s, c.want)
		}
	}
	if s := value.Show(text(strings.Repeat("\x00", 100))); s != `"`+strings.Repeat("%00", 100)+`"` {
		t.Errorf("Show of 100 bytes of 0: %s", s)
	}
}

func TestShowOfLists(t *testing.T) {
	for _, c := range []struct {
		v    api.Value
		want string
	}{
		{list(), "[]"}, {list(list()), "[[]]"}, {list(list(), list()), "[[],[]]"}, {list(number(-1)), "[-1]"}, {list(number(1), text("a"), list(number(2), number(3))), `[1,"a",[2,3]]`},
		{list(text(""), text(",")), `["",","]`}, {listOf(40, number(0)), "[0" + strings.Repeat(",0", 39) + "]"}, {nested(number(1), 5), "[[[[[1]]]]]"},
	} {
		if s := value.Show(c.v); s != c.want {
			t.Errorf("Show: %s, want %s", s, c.want)
		}
	}
}

// P8.5

func TestWhatIsSaidIsTaken(t *testing.T) {
	l := rights()
	var b []byte
	for _, v := range l {
		b = value.Put(b, v)
		said, e := value.Bytes(v)
		if got, f := value.Parse(said); e != api.OK || f != api.OK || !value.Same(got, v) {
			t.Errorf("%s was said, error %d, %s was taken, error %d", brief(v), e, brief(got), f)
		}
	}
	for _, v := range l {
		got, rest, e := value.Take(b)
		if e != api.OK || !value.Same(got, v) {
			t.Fatalf("%s was said, %s was taken, error %d", brief(v), brief(got), e)
		}
		b = rest
	}
	if len(b) != 0 {
		t.Errorf("%d bytes are behind all that was said", len(b))
	}
}

func TestWhatIsTakenIsSaidJustSo(t *testing.T) {
	r := chance()
	taken := 0
	for range 100000 {
		b := make([]byte, 1+r.IntN(12))
		for i := range b {
			b[i] = []byte{0, 0, 1, 2, 2, 4, 4, 6, 128, 129, 255}[r.IntN(11)]
		}
		v, rest, e := value.Take(b)
		if e != api.OK {
			continue
		}
		taken++
		if !value.Right(v) {
			t.Errorf("a value that is not right was taken of % x: %s", b, brief(v))
		}
		if said := value.Put(nil, v); !bytes.Equal(slices.Concat(said, rest), b) {
			t.Errorf("%s was taken of % x, but is said % x", brief(v), b, said)
		}
	}
	if taken < 10000 {
		t.Errorf("no more than %d values were taken", taken)
	}
}

// Small values, each of them once: numbers and texts that could be taken for each other, and lists of these.
func small() []api.Value {
	var l []api.Value
	for _, n := range []int64{0, 1, -1, 2, -2, 10, 11, 12, -12, 64, 128, math.MaxInt64, math.MinInt64} {
		l = append(l, number(n))
	}
	for _, s := range []string{"", "0", "1", "10", "-1", "%", "%2", "%25", "25", `"`, "%22", "[]", "[", ",", "a,b", `","`, "a", "A", "\x00", "\x00\x00", " ", "%20", "\x0a", "\xa0"} {
		l = append(l, text(s))
	}
	l = append(l, list())
	ones := slices.Clone(l)
	for _, v := range ones {
		l = append(l, list(v), list(list(v)), list(v, list()), list(list(v), list()), list(list(v, list())), list(list(), v))
		for _, w := range ones {
			if len(w.L) == 0 && w.Kind == api.ValList || v.Kind == api.ValList {
				continue // these are there already
			}
			l = append(l, list(v, w), list(list(v), w), list(v, list(w)), list(list(v, w)), list(v, w, number(0)))
		}
	}
	return l
}

func TestUnlikeValuesAreUnlike(t *testing.T) {
	var kept []api.Value
	saids, showns := map[string]int{}, map[string]int{}
	for _, v := range append(small(), rights()...) {
		b, _ := value.Bytes(v)
		s := value.Show(v)
		i, said := saids[string(b)]
		k, shown := showns[s]
		if said && !value.Same(kept[i], v) || shown && !value.Same(kept[k], v) {
			t.Errorf("unlike values are said, or shown, alike: % x, %s: %s", b, s, brief(v))
		}
		if said != shown {
			t.Errorf("values are alike as bytes, or as they are shown, but not both: %s", brief(v))
		}
		if !said {
			saids[string(b)], showns[s] = len(kept), len(kept)
			kept = append(kept, v)
		}
	}
	for i, v := range kept[:800] {
		for _, w := range kept[:i] {
			if value.Same(v, w) {
				t.Errorf("%s and %s are the same, but unlike as bytes", brief(v), brief(w))
			}
		}
	}
}

// The chapter's examples.

func TestExamples(t *testing.T) {
	for _, c := range []struct {
		v     api.Value
		said  []byte
		shown string
	}{
		{number(5), []byte{0, 10}, "5"},
		{text("a%"), []byte{2, 4, 97, 37}, `"a%25"`},
		{list(number(-1), list()), []byte{4, 4, 0, 1, 4, 0}, "[-1,[]]"},
	} {
		if b, e := value.Bytes(c.v); !bytes.Equal(b, c.said) || e != api.OK {
			t.Errorf("Bytes: %v, error %d, want %v", b, e, c.said)
		}
		if s := value.Show(c.v); s != c.shown {
			t.Errorf("Show: %s, want %s", s, c.shown)
		}
		wantTaken(t, c.said, c.v, nil)
	}
	wantNone(t, []byte{6})
	wantTaken(t, []byte{0, 10, 0}, number(5), []byte{0})
	wantNotParsed(t, []byte{0, 10, 0})
}
