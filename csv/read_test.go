package csv

import (
	"math/rand"
	"regexp"
	"slices"
	"strings"
	"testing"

	"cardex/api"
	"cardex/utf"
)

// rep is n times s.
func rep(s string, n int) string { return strings.Repeat(s, n) }

// row is a row of these fields.
func row(fields ...string) []string { return fields }

// same tells whether a and b are the same rows.
func same(a, b [][]string) bool {
	return slices.EqualFunc(a, b, func(a, b []string) bool { return slices.Equal(a, b) })
}

// fieldForm is a field by the words of chapter 4: between two quotes, or bytes without comma, quote, 13 and 10.
var fieldForm = regexp.MustCompile(`^(?:"((?:[^"]|"")*)"|([^,"\r\n]*))`)

// readAsTold tells the rows of s by the words of P4.1.
func readAsTold(s string) ([][]string, api.Errno) {
	if len(s) > 20_000 {
		return nil, api.ErrBig
	}
	if !utf.Valid(s) {
		return nil, api.ErrUtf
	}
	var rows [][]string
	begins := true // whether a row begins here, if there are bytes left
	for s != "" || !begins {
		if begins {
			rows = append(rows, nil)
		}
		last := len(rows) - 1
		if len(rows) > 200 || len(rows[last]) == 30 {
			return nil, api.ErrBig
		}
		m := fieldForm.FindStringSubmatch(s)
		rows[last] = append(rows[last], strings.ReplaceAll(m[1], `""`, `"`)+m[2])
		s = s[len(m[0]):]
		switch {
		case s == "":
			begins = true
		case strings.HasPrefix(s, "\r\n"):
			begins, s = true, s[2:]
		case s[0] == ',':
			begins, s = false, s[1:]
		default:
			return nil, api.ErrQuote
		}
	}
	return rows, api.OK
}

// readIs holds Read of s against what it should answer.
func readIs(t *testing.T, s string, err api.Errno, want ...[]string) {
	t.Helper()
	if got, e := Read(s); !same(got, want) || e != err || err != api.OK && got != nil {
		t.Fatalf("P4.1: Read(%.300q): %.300q, %d; want %.300q, %d", s, got, e, want, err)
	}
}

// heldRead holds Read of s against the words of P4.1.
func heldRead(t *testing.T, s string) {
	t.Helper()
	want, err := readAsTold(s)
	readIs(t, s, err, want...)
}

// rowsAre holds that s is read as want, with the last row's end and without.
func rowsAre(t *testing.T, s string, want ...[]string) {
	t.Helper()
	readIs(t, s, api.OK, want...)
	readIs(t, s+"\r\n", api.OK, want...)
	readIs(t, s+"\r\nx,y", api.OK, append(slices.Clone(want), row("x", "y"))...)
	readIs(t, "x\r\n"+s, api.OK, append([][]string{{"x"}}, want...)...)
}

// refused holds that s is not read, whatever is ahead of it, or behind it as a row or a field of its own.
func refused(t *testing.T, s string) {
	t.Helper()
	for _, ahead := range []string{"", ",", "a,", "\r\n", "a\r\n", `"a",`, "\"\"\r\n", "\"a\nb\","} {
		for _, behind := range []string{"", ",", ",b", "\r\n", "\r\nb", "\r\nb,c\r\n", "\r"} {
			readIs(t, ahead+s+behind, api.ErrQuote)
		}
	}
}

func TestOrdinaryRows(t *testing.T) {
	rowsAre(t, "a,b", row("a", "b"))
	rowsAre(t, "a", row("a"))
	rowsAre(t, "a\r\nb\r\nc", row("a"), row("b"), row("c"))
	rowsAre(t, "Name,E-mail\r\nZoë,zoe@example.org\r\n日本,😀", row("Name", "E-mail"), row("Zoë", "zoe@example.org"), row("日本", "😀"))
	rowsAre(t, "a,b,c\r\nd\r\ne,f", row("a", "b", "c"), row("d"), row("e", "f"))
	rowsAre(t, `"Quinlan, John","say ""hi""",x`, row("Quinlan, John", `say "hi"`, "x"))
}

func TestNoBytes(t *testing.T) {
	if l, err := Read(""); l != nil || err != api.OK {
		t.Errorf("P4.1: Read of no bytes: %q, %d", l, err)
	}
}

// A row's end alone is a row of one field of no bytes; the last one begins no row.
func TestEndsAlone(t *testing.T) {
	readIs(t, "\r\n", api.OK, row(""))
	readIs(t, "\r\n\r\n", api.OK, row(""), row(""))
	readIs(t, "\r\n\r\n\r\n", api.OK, row(""), row(""), row(""))
	readIs(t, "\r\na", api.OK, row(""), row("a"))
	readIs(t, "a\r\n\r\nb\r\n\r\n", api.OK, row("a"), row(""), row("b"), row(""))
	readIs(t, "a\r\n", api.OK, row("a"))
}

// Fields of no bytes: first, between and last.
func TestEmptyFields(t *testing.T) {
	rowsAre(t, ",", row("", ""))
	rowsAre(t, ",,", row("", "", ""))
	rowsAre(t, ",a", row("", "a"))
	rowsAre(t, "a,", row("a", ""))
	rowsAre(t, "a,,b", row("a", "", "b"))
	rowsAre(t, ",a,,b,", row("", "a", "", "b", ""))
	rowsAre(t, "a,\r\n,b", row("a", ""), row("", "b"))
	rowsAre(t, ",\r\n\r\n,", row("", ""), row(""), row("", ""))
	rowsAre(t, `""`, row(""))
	rowsAre(t, `"",`, row("", ""))
	rowsAre(t, `,""`, row("", ""))
	rowsAre(t, `"","",""`, row("", "", ""))
}

// Bytes that stand for themselves, in quotes or not.
func TestWhatStays(t *testing.T) {
	for _, s := range []string{" ", "  ", "\t", " a ", ";", "'", "a'b", `\`, `\n`, "|", "=", "#x", "a b", "\x7f", "\u0085", "\u2028", "\ufeffa", "\ufffd", "é", "€", "😀", "\U0010ffff"} {
		rowsAre(t, s, row(s))
		rowsAre(t, `"`+s+`"`, row(s))
		rowsAre(t, s+","+s, row(s, s))
		rowsAre(t, `"`+s+`",`+s, row(s, s))
	}
}

// Between quotes: two of them for one, commas, 13 and 10, together or not.
func TestBetweenQuotes(t *testing.T) {
	for _, r := range []struct{ s, want string }{
		{`"a"`, "a"}, {`"a""b"`, `a"b`}, {`""""`, `"`}, {`""""""`, `""`}, {`"""a"`, `"a`}, {`"a"""`, `a"`}, {`"a""""b"`, `a""b`}, {`""","""`, `","`}, {`"a"",""b"`, `a","b`},
		{`","`, ","}, {`"a,b"`, "a,b"}, {`",,,"`, ",,,"},
		{"\"\r\"", "\r"}, {"\"\n\"", "\n"}, {"\"\r\n\"", "\r\n"}, {"\"\n\r\"", "\n\r"}, {"\"a\r\nb\nc\rd\"", "a\r\nb\nc\rd"},
		{"\"\"\"\r\n\"\",\"", "\"\r\n\","}, {"\"é\"\"😀\"", `é"😀`},
		{`"` + rep(",", 100) + `"`, rep(",", 100)}, {`"` + rep("\r\n", 500) + `"`, rep("\r\n", 500)}, {`"` + rep(`""`, 500) + `"`, rep(`"`, 500)},
	} {
		rowsAre(t, r.s, row(r.want))
		rowsAre(t, r.s+","+r.s, row(r.want, r.want))
		rowsAre(t, "x,"+r.s+",y", row("x", r.want, "y"))
		rowsAre(t, ","+r.s+",", row("", r.want, ""))
		rowsAre(t, r.s+"\r\n"+r.s, row(r.want), row(r.want))
	}
}

// A quote in a field that does not begin with one.
func TestStrayQuotes(t *testing.T) {
	for _, s := range []string{`a"`, `a""`, `a"b`, `a"b"`, `a""b`, ` "a"`, ` "`, "\t\"a\"", `é"`, `a "b" c`, `'"'`, `\"`} {
		refused(t, s)
	}
}

// Bytes behind a quote that ends a field, beside a comma and a row's end.
func TestBehindQuotes(t *testing.T) {
	for _, s := range []string{`"a"b`, `"a" `, `"a" b`, `"" `, `""a`, `"""" `, `"a""b"c`, `"a"é`, "\"a\"\t", `"a"'`, `"a";b`, `"a"b"`, `"a"b""`, `"a" "b"`, "\"a\r\nb\"c", "\"a\"\ufeff"} {
		refused(t, s)
	}
}

// A quote that is never ended takes all that is behind it.
func TestUnendedQuotes(t *testing.T) {
	for _, s := range []string{`"`, `"a`, `"""`, `"a""`, `"a""b`, `"""a`, `"""""`, `",`, `"a,b`, "\"\r\n", "\"a\r\nb\r\n", "\"a\nb", `"😀`, "\"" + rep(",", 100), "\"" + rep("\r\n", 300)} {
		refused(t, s)
	}
	readIs(t, "\"a\r\nb,\"", api.OK, row("a\r\nb,"))
}

// 13 without 10, and 10 without 13.
func TestHalfEnds(t *testing.T) {
	for _, s := range []string{"\r", "\n", "\r\r", "\n\n", "\n\r", "\r\r\n", "\n\r\n", "a\rb", "a\nb", "a\r", "a\n", "a\r\r\n", "a\n\r\n", "\ra", "\na", "a\r,b", "a\n,b", "a,\r,b", "a,\n,b",
		"\"a\"\rb", "\"a\"\nb", "\"\"\r\r\n", "\"\"\n", "\r\n\n", "\r\n\r\r", "a\r \nb"} {
		for _, ahead := range []string{"", "b", "b,", "b\r\n", `"b",`, `"b"`, "\"b\nc\"\r\n"} {
			readIs(t, ahead+s+" ", api.ErrQuote)
			readIs(t, ahead+s+",c", api.ErrQuote)
		}
		if s[len(s)-1] != '\r' {
			readIs(t, s, api.ErrQuote)
		}
	}
	readIs(t, "\r", api.ErrQuote)
	readIs(t, "a\r", api.ErrQuote)
	readIs(t, "a\r\n\r", api.ErrQuote)
	readIs(t, "\"a\"\r", api.ErrQuote)
}

// Just MaxRows rows, with the last one's end and without, and one more.
func TestManyRows(t *testing.T) {
	for _, r := range []struct{ s, field string }{{"", ""}, {"x", "x"}, {`"a,"""`, `a,"`}, {`""`, ""}, {"\"\r\n\"", "\r\n"}} {
		want := slices.Repeat([][]string{row(r.field)}, 200)
		readIs(t, rep(r.s+"\r\n", 199), api.OK, want[:199]...)
		readIs(t, rep(r.s+"\r\n", 200), api.OK, want...)
		readIs(t, rep(r.s+"\r\n", 201), api.ErrBig)
		readIs(t, rep(r.s+"\r\n", 199)+"y", api.OK, append(slices.Clone(want[:199]), row("y"))...)
		readIs(t, rep(r.s+"\r\n", 200)+"y", api.ErrBig)
		readIs(t, rep(r.s+"\r\n", 200)+"y\r\n", api.ErrBig)
		readIs(t, rep(r.s+"\r\n", 200)+",", api.ErrBig)
	}
	readIs(t, rep("a,b\r\n", 200), api.OK, slices.Repeat([][]string{{"a", "b"}}, 200)...)
	readIs(t, rep("\r\n", 10_000), api.ErrBig)
}

// Just MaxFields fields, in the first row and in others, and one more.
func TestManyFields(t *testing.T) {
	for _, r := range []struct{ s, field string }{{"", ""}, {"x", "x"}, {`"a,b"`, "a,b"}, {`""`, ""}, {"\"\r\n\"", "\r\n"}, {`""""`, `"`}} {
		want := slices.Repeat([]string{r.field}, 30)
		rowsAre(t, r.s+rep(","+r.s, 28), want[:29])
		rowsAre(t, r.s+rep(","+r.s, 29), want)
		rowsAre(t, r.s+rep(","+r.s, 29)+"\r\n"+r.s+rep(","+r.s, 29), want, want)
		for _, ahead := range []string{"", "a\r\n", "\r\n", r.s + rep(","+r.s, 29) + "\r\n"} {
			for _, behind := range []string{"", "\r\n", "\r\nb", ",", ",b"} {
				readIs(t, ahead+r.s+rep(","+r.s, 30)+behind, api.ErrBig)
			}
		}
		readIs(t, r.s+rep(","+r.s, 29)+",", api.ErrBig)
	}
	full := slices.Repeat([]string{"abc"}, 30)
	readIs(t, rep("abc"+rep(",abc", 29)+"\r\n", 160), api.OK, slices.Repeat([][]string{full}, 160)...)
	readIs(t, rep(rep(",", 29)+"\r\n", 200), api.OK, slices.Repeat([][]string{make([]string, 30)}, 200)...)
	readIs(t, rep(",", 20_000), api.ErrBig)
}

// Just MaxBytes bytes, and one more, whatever they are.
func TestManyBytes(t *testing.T) {
	readIs(t, rep("x", 20_000), api.OK, row(rep("x", 20_000)))
	readIs(t, rep("é", 10_000), api.OK, row(rep("é", 10_000)))
	readIs(t, `"`+rep(",", 19_998)+`"`, api.OK, row(rep(",", 19_998)))
	readIs(t, `"`+rep(`""`, 9_999)+`"`, api.OK, row(rep(`"`, 9_999)))
	readIs(t, rep("x", 19_998)+"\r\n", api.OK, row(rep("x", 19_998)))
	readIs(t, rep(rep("x", 98)+"\r\n", 200), api.OK, slices.Repeat([][]string{row(rep("x", 98))}, 200)...)
	readIs(t, rep("x", 20_001), api.ErrBig)
	readIs(t, rep("é", 10_000)+"x", api.ErrBig)
	readIs(t, `"`+rep(",", 19_999)+`"`, api.ErrBig)
	readIs(t, rep("x", 19_999)+"\r\n", api.ErrBig)
	readIs(t, rep("x", 1_000_000), api.ErrBig)
}

// Bytes that are no text, in quotes or not.
func TestNoText(t *testing.T) {
	for _, s := range []string{"\xff", "\x80", "\xc0\x80", "\xe2\x82", "\xed\xa0\x80", "\xf4\x90\x80\x80", "\x00", "\x01", "\x08", "\x0b", "\x0c", "\x1f", "\uffff", "\ufffe"} {
		for _, around := range []string{"", "a", "é", ",", "\r\n", `"`, "a\"", "\"\"", "a\n", "\r", rep(",", 40), rep("\r\n", 300)} {
			readIs(t, s+around, api.ErrUtf)
			readIs(t, around+s, api.ErrUtf)
			readIs(t, around+s+around, api.ErrUtf)
		}
	}
	heldRead(t, "a\uffffb")
	heldRead(t, "a\ufffdb")
}

// Which error counts: too many bytes ahead of no text, this ahead of what is wrong in the rows.
func TestWhichErrorOfAll(t *testing.T) {
	wrong := []string{"x", `"`, "a\"", "\n", rep(",", 40), rep("\r\n", 300)}
	for _, a := range wrong {
		readIs(t, a+rep("x", 20_001-len(a)), api.ErrBig)
		readIs(t, a+rep("x", 20_000-len(a))+"\xff", api.ErrBig)
		readIs(t, "\xff"+rep("x", 20_000-len(a))+a, api.ErrBig)
		readIs(t, a+rep("x", 19_999-len(a))+"\xff", api.ErrUtf)
		readIs(t, "\xff"+rep("x", 19_999-len(a))+a, api.ErrUtf)
	}
	readIs(t, rep("\xff", 20_000), api.ErrUtf)
	readIs(t, rep("\xff", 20_001), api.ErrBig)
}

// Which error counts of those in the rows: the first thing that is wrong, from left to right.
func TestWhichErrorInRows(t *testing.T) {
	fields, rows := rep(",", 30), rep("x\r\n", 200)
	for _, wrong := range []string{`"`, `"a`, `a"`, `a"b`, `"a"b`, "\r", "\n", "a\rb", "\"\"\n", `"""`} {
		for _, many := range []string{fields, "x" + rep(",x", 30), "a\r\n" + fields, rows, rows + "x"} {
			readIs(t, wrong+many, api.ErrQuote)
			readIs(t, "a,"+wrong+many, api.ErrQuote)
			readIs(t, "a\r\n"+wrong+many, api.ErrQuote)
		}
		// All fields or rows that may be are there ahead of it: the next one is one too many as soon as it begins.
		readIs(t, fields+wrong, api.ErrBig)
		readIs(t, rows+wrong, api.ErrBig)
		readIs(t, rows+fields+wrong, api.ErrBig)
		// It stands in the last one that may be.
		readIs(t, fields[1:]+wrong, api.ErrQuote)
		readIs(t, fields[1:]+wrong+",", api.ErrQuote)
		readIs(t, rows[3:]+wrong, api.ErrQuote)
		readIs(t, rows[3:]+wrong+rows, api.ErrQuote)
		readIs(t, rows[3:]+fields[1:]+wrong+fields, api.ErrQuote)
	}
	// A row of 30 fields without its end, and then a part of one.
	readIs(t, fields[1:]+"\n", api.ErrQuote)
	readIs(t, fields[1:]+"\r", api.ErrQuote)
	readIs(t, fields[1:]+"x\r,", api.ErrQuote)
	readIs(t, fields[1:]+"x,\r", api.ErrBig)
	// What a quote has in it counts as no fields and no rows.
	readIs(t, `"`+fields+`"`, api.OK, row(fields))
	readIs(t, "\""+rows+"\n\"", api.OK, row(rows+"\n"))
	readIs(t, `"`+fields+`" `+fields, api.ErrQuote)
}

// ofPieces are all texts of one to most of the pieces.
func ofPieces(most int, pieces ...string) []string {
	all, last := []string{}, []string{""}
	for range most {
		var longer []string
		for _, s := range last {
			for _, p := range pieces {
				longer = append(longer, s+p)
			}
		}
		all, last = append(all, longer...), longer
	}
	return all
}

// All texts of up to six pieces, held against the words of P4.1.
func TestPieces(t *testing.T) {
	for _, s := range ofPieces(6, "a", ",", `"`, "\r", "\n", "\r\n", "é", "\xff") {
		heldRead(t, s)
	}
}

// Texts of pieces where there is just room for a field or two, and for a row or two.
func TestPiecesAtTheLimits(t *testing.T) {
	for _, s := range ofPieces(4, "a", ",", `"`, "\r", "\n", "\r\n") {
		for _, n := range []int{28, 29, 30} {
			heldRead(t, rep(",", n)+s)
		}
		for _, n := range []int{198, 199, 200} {
			heldRead(t, rep("\r\n", n)+s)
		}
		heldRead(t, rep("\r\n", 199)+rep(",", 29)+s)
	}
}

// Long inputs by chance, held against the words of P4.1.
func TestByChance(t *testing.T) {
	chance := rand.New(rand.NewSource(4))
	pieces := []string{"a", "bc", ",", ",", "\r\n", `"x"`, `"a,b"`, "\"\r\n\"", `"""a"""`, `""`, "é", " ", "😀"}
	odd := []string{`"`, "\r", "\n", "\xff"}
	refusals := map[api.Errno]int{}
	for range 3_000 {
		var b strings.Builder
		for range chance.Intn(700) {
			// A field between quotes has its comma, so that many rows come far.
			p := pieces[chance.Intn(len(pieces))]
			if p[0] == '"' {
				p = "," + p + "\r\n"
			}
			b.WriteString(p)
		}
		s := b.String()
		if chance.Intn(3) == 0 {
			at := chance.Intn(len(s) + 1)
			s = s[:at] + odd[chance.Intn(len(odd))] + s[at:]
		}
		want, err := readAsTold(s)
		readIs(t, s, err, want...)
		refusals[err]++
	}
	for _, err := range []api.Errno{api.OK, api.ErrUtf, api.ErrBig, api.ErrQuote} {
		if refusals[err] < 100 {
			t.Errorf("P4.1: chance made %d inputs of the error %d", refusals[err], err)
		}
	}
}

// R3: what is handed out is new each time, and no two rows share their memory, nor the room behind their ends.
func TestRowsAreNew(t *testing.T) {
	s := "a,b\r\nc,d,e\r\nf\r\n" + rep("x,y,z\r\n", 20)
	want, _ := readAsTold(s)
	one, _ := Read(s)
	two, _ := Read(s)
	for i := range one {
		_ = append(one[i], "p", "q", "r")
		if !same(one, want) {
			t.Fatalf("R3: who writes behind the row %d changes others: %q", i, one)
		}
	}
	for i := range one {
		for j := range one[i] {
			one[i][j] = "changed"
		}
		if !same(one[i+1:], want[i+1:]) {
			t.Fatalf("R3: who writes into the row %d changes others: %q", i, one)
		}
	}
	_ = append(one[:1], row("z"))
	if !same(two, want) {
		t.Errorf("R3: who writes into the rows changes those of another call: %q", two)
	}
	readIs(t, s, api.OK, want...)
}
