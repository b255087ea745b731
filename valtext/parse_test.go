package valtext_test

import (
	"strings"
	"testing"

	"betrothal/api"
	"betrothal/val"
	"betrothal/valtext"
)

// P5.2 and P5.4: Parse of texts, and Text of what it returns.
func TestParse(t *testing.T) {
	for _, c := range spellings() {
		v, at, e := valtext.Parse(c.s)
		wantVal(t, c.s, v, at, e, c.v)
		if s, e := valtext.Text(v); s != c.s || e != api.OK {
			t.Errorf("%s became %s, error %d", c.s, s, e)
		}
	}
}

// P5.2: where strings are wrong.
func TestParseWrong(t *testing.T) {
	sixteen := "choose(" + strings.Repeat("never,", 15) + "never"
	eight := strings.Repeat(",unit", 8)
	for _, c := range []struct {
		s  string
		at int
	}{
		// The examples of the chapter.
		{"send(5)", 5}, {"01", 1}, {"-0", 1}, {"chan()", 5}, {"chan(", 5}, {"guard(64)", 7}, {"unit ", 4}, {"", 0},
		// No byte is wrong, but it is no text.
		{"u", 1}, {"uni", 3}, {"ch", 2}, {"c", 1}, {"-", 1}, {"pair", 4}, {"pair(", 5}, {"pair(1", 6}, {"pair(1,", 7}, {"pair(1,2", 8},
		{"choose", 6}, {"choose(", 7}, {"choose(never", 12}, {"choose(never,", 13}, {"choose(n", 8}, {"wrap(", 5}, {"wrap(6", 6}, {"wrap(6,", 7},
		{"guard(", 6}, {"guard(6", 7}, {"guard(6,", 8}, {"recv(chan(3)", 12}, {"cond(12", 7}, {"always(-", 8},
		// No part begins so.
		{"x", 0}, {" ", 0}, {" 1", 0}, {"Unit", 0}, {"(", 0}, {")", 0}, {",", 0}, {"+1", 0}, {"nx", 1}, {"nex", 2}, {"units", 4}, {"unit()", 4}, {"never()", 5},
		{"chao", 3}, {"chop", 3}, {"cx", 1}, {"senf", 3}, {"nacl", 3}, {"pairs", 4}, {"pair )", 4}, {"int(5)", 0}, {"none", 1},
		// Numbers.
		{"00", 1}, {"-", 1}, {"--1", 1}, {"-01", 1}, {"-x", 1}, {"1-", 1}, {"1 ", 1}, {"1.5", 1}, {"1e3", 1}, {"1_0", 1}, {"0x1", 1}, {"12a", 2},
		{"9223372036854775808", 18}, {"92233720368547758070", 19}, {"-9223372036854775809", 19}, {"-92233720368547758080", 20},
		{"9223372036854775810", 18}, {"9223372036854775900", 18}, {"9300000000000000000", 18}, {"99999999999999999999999", 18}, {"18446744073709551617", 19},
		{"chan(9223372036854775808)", 23}, {"chan(-1)", 5}, {"chan(00)", 6}, {"chan(01)", 6}, {"chan(-0)", 5}, {"cond(-1)", 5}, {"cond(9223372036854775808)", 23}, {"cond(07)", 6},
		{"guard(-1)", 6}, {"guard(65)", 7}, {"guard(70)", 7}, {"guard(630)", 8}, {"guard(100)", 8}, {"guard(00)", 7}, {"nack(64)", 6}, {"nack(-0)", 5}, {"wrap(64,never)", 6}, {"wrap(99,never)", 6}, {"wrap(,never)", 5},
		{"1\xff", 1}, {"1\u0661", 1}, {"\u0661", 0}, {"\xff", 0}, {"unit\x00", 4}, {"\x00", 0}, {"un\xc3\xaft", 2}, {"1\n", 1}, {"unit\n", 4}, {"\n", 0},
		// Lists that are too short, too long, or of values that do not fit.
		{"pair()", 5}, {"pair(1)", 6}, {"pair(1,2,3)", 8}, {"pair(1,)", 7}, {"pair(,1)", 5}, {"pair(1 ,2)", 6}, {"pair(1, 2)", 7}, {"pair(1;2)", 6}, {"pair(1,2))", 9}, {"pair(1,2),", 9},
		{"send()", 5}, {"send(chan(3))", 12}, {"send(chan(3),)", 13}, {"send(chan(3),5,6)", 14}, {"send(cond(3),5)", 6}, {"send(choose(),5)", 7}, {"send(unit,5)", 5}, {"send(recv(chan(3)),5)", 5},
		{"recv()", 5}, {"recv(3)", 5}, {"recv(chan(3),chan(3))", 12}, {"recv(never)", 5}, {"always()", 7}, {"always(1,2)", 8},
		{"choose(unit)", 7}, {"choose(5)", 7}, {"choose(-5)", 7}, {"choose(chan(3))", 9}, {"choose(pair(1,2))", 7}, {"choose(never,unit)", 13}, {"choose(,never)", 7}, {"choose(never,)", 13},
		{sixteen + ",never)", len(sixteen)}, {sixteen, len(sixteen)},
		{"wrap(7)", 6}, {"wrap(7,unit)", 7}, {"wrap(7,5)", 7}, {"wrap(7,pair(never,1))", 7}, {"wrap(7,chan(3))", 9}, {"wrap(never)", 5}, {"wrap()", 5}, {"wrap(7 ,never)", 6},
		{"wrap(7,never" + eight + ",1)", 12 + len(eight)}, {"guard(7" + eight + ",1)", 7 + len(eight)}, {"nack(7" + eight + ",1)", 6 + len(eight)},
		{"guard()", 6}, {"guard(unit)", 6}, {"nack()", 5}, {"guard(7,)", 8}, {"cond()", 5}, {"cond(3,1)", 6}, {"chan(3,1)", 6}, {"chan(3)3", 7},
	} {
		v, at, e := valtext.Parse(c.s)
		wantWrong(t, c.s, v, at, e, c.at)
	}
}

// P5.2: the first byte of a part is wrong if MaxVal parts begin before it, and nothing else is for that reason.
func TestParseParts(t *testing.T) {
	v, at, e := valtext.Parse(deepText(255))
	wantVal(t, "255 parts", v, at, e, deep(255))
	v, at, e = valtext.Parse(deepText(256))
	wantVal(t, "256 parts", v, at, e, deep(256))
	for _, parts := range []int{257, 258, 1000, 100000} {
		v, at, e = valtext.Parse(deepText(parts))
		wantWrong(t, "too deep", v, at, e, 256*7)
	}
	// A choice of 15 choices of 16 parts each, and of an open one of 15 parts: 256 parts in all.
	some := "choose(" + strings.Repeat("never,", 14) + "never)"
	open := "choose(" + strings.Repeat(some+",", 15) + "choose("
	open += strings.Repeat("never,", 13) + "never"
	if n := strings.Count(open, "choose") + strings.Count(open, "never"); n != 256 {
		t.Fatal(n)
	}
	v, at, e = valtext.Parse(open + "))")
	if e != api.OK || at != 0 || val.Size(v) != 256 || spell(v) != open+"))" {
		t.Errorf("256 parts: %d, error %d", at, e)
	}
	for _, rest := range []string{"", ",", ",never))", ",x", ",)", ")", ")x", ")5"} {
		want := len(open) + len(rest[:min(len(rest), 1)])
		v, at, e = valtext.Parse(open + rest)
		wantWrong(t, rest+" after 256 parts", v, at, e, want)
	}
	flat := strings.Repeat("pair(1,", 127) + "pair("
	for _, rest := range []string{"", "1", "-1", "unit", ")", "-", "x"} {
		v, at, e = valtext.Parse(flat + rest)
		want := len(flat) + len(rest)
		switch rest {
		case ")", "x":
			want = len(flat)
		}
		wantWrong(t, rest+" as part 256", v, at, e, want)
	}
	for _, rest := range []string{"1,", "1,1", "1,-", "1,x", "1,unit)"} {
		v, at, e = valtext.Parse(flat + rest)
		wantWrong(t, rest+" as part 257", v, at, e, len(flat)+2)
	}
}

// P5.2: long strings.
func TestParseLong(t *testing.T) {
	long := strings.Repeat("1", 1<<22)
	v, at, e := valtext.Parse(long)
	wantWrong(t, "digits", v, at, e, 19)
	v, at, e = valtext.Parse("unit" + long)
	wantWrong(t, "digits after a unit", v, at, e, 4)
	v, at, e = valtext.Parse(strings.Repeat("(", 1<<22))
	wantWrong(t, "parentheses", v, at, e, 0)
	v, at, e = valtext.Parse(strings.Repeat("pair(", 1<<20))
	wantWrong(t, "pairs", v, at, e, 256*5)
}

// P5.2: what is returned is new memory, each list by itself.
func TestParseShares(t *testing.T) {
	s := "pair(guard(1,unit,4),guard(1,unit,pair(unit,unit)))"
	want := pair(of(api.ValGuard, 1, unit(), number(4)), of(api.ValGuard, 1, unit(), pair(unit(), unit())))
	v, _, _ := valtext.Parse(s)
	w, _, _ := valtext.Parse(s)
	spoil(v)
	wantVal(t, s, w, 0, api.OK, want)
	_ = append(w.L[0].L, number(9))
	_ = append(w.L, number(9))
	wantVal(t, s, w, 0, api.OK, want)
	spoil(w.L[0])
	wantVal(t, s, w.L[1], 0, api.OK, want.L[1])
}

// P5.4: Parse of Text returns the value, and Text of Parse the string.
func TestThereAndBack(t *testing.T) {
	r := numbers(7)
	for range 20000 {
		v := r.value(r.below(4))
		s, e := valtext.Text(v)
		if e != api.OK {
			t.Fatalf("%v: error %d", v, e)
		}
		w, at, e := valtext.Parse(s)
		if e != api.OK || at != 0 || !alike(v, w) || val.Check(w) != api.OK {
			t.Fatalf("%s: %v at %d, error %d", s, w, at, e)
		}
		if again, e := valtext.Text(w); again != s || e != api.OK {
			t.Fatalf("%s became %s, error %d", s, again, e)
		}
	}
}
