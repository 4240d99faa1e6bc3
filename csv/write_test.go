package csv

import (
	"math/rand"
	"slices"
	"strings"
	"testing"

	"cardex/api"
	"cardex/utf"
)

// fieldAsTold is the field as it is written, by the words of P4.1.
func fieldAsTold(field string, alone bool) string {
	quotes := alone && field == ""
	told := ""
	for i := range len(field) {
		c := field[i : i+1]
		switch c {
		case "\x2c", "\x0d", "\x0a":
			quotes = true
		case "\x22":
			quotes = true
			c = "\x22\x22"
		}
		told += c
	}
	if quotes {
		told = "\x22" + told + "\x22"
	}
	return told
}

// writtenAsTold is l as it is written, by the words of P4.1.
func writtenAsTold(l [][]string) string {
	told := ""
	for _, row := range l {
		for i, field := range row {
			if i > 0 {
				told += "\x2c"
			}
			told += fieldAsTold(field, len(row) == 1)
		}
		if len(row) > 0 {
			told += "\x0d\x0a"
		}
	}
	return told
}

// withFields are the rows of l that have fields.
func withFields(l [][]string) [][]string {
	return slices.DeleteFunc(slices.Clone(l), func(row []string) bool { return len(row) == 0 })
}

// writeIs holds Write of l against what it should answer; and that what is written is read, if it is a text that is not too great.
func writeIs(t *testing.T, want string, l ...[]string) {
	t.Helper()
	if got := Write(l); got != want {
		t.Fatalf("P4.1: Write(%.300q): %.300q; want %.300q", l, got, want)
	}
	if utf.Valid(want) && len(want) <= 20_000 && len(withFields(l)) <= 200 {
		readIs(t, want, api.OK, withFields(l)...)
	}
}

// heldWrite holds Write of l against the words of P4.1.
func heldWrite(t *testing.T, l ...[]string) {
	t.Helper()
	writeIs(t, writtenAsTold(l), l...)
}

func TestWriteOrdinaryRows(t *testing.T) {
	writeIs(t, "a\r\n", row("a"))
	writeIs(t, "a,b\r\nc\r\n", row("a", "b"), row("c"))
	writeIs(t, "Name,E-mail\r\nZoë,zoe@example.org\r\n日本,😀\r\n", row("Name", "E-mail"), row("Zoë", "zoe@example.org"), row("日本", "😀"))
	writeIs(t, "\"Quinlan, John\",\"say \"\"hi\"\"\",x\r\n", row("Quinlan, John", `say "hi"`, "x"))
}

func TestWriteNoRows(t *testing.T) {
	writeIs(t, "")
	if s := Write(nil); s != "" {
		t.Errorf("P4.1: Write of nil: %q", s)
	}
	if s := Write([][]string{}); s != "" {
		t.Errorf("P4.1: Write of no rows: %q", s)
	}
}

// Rows of no fields are left out, wherever they stand.
func TestWriteNoFields(t *testing.T) {
	none := []string{}
	writeIs(t, "", none)
	writeIs(t, "", nil)
	writeIs(t, "", nil, none, nil)
	writeIs(t, "a\r\n", none, row("a"))
	writeIs(t, "a\r\n", row("a"), nil)
	writeIs(t, "a\r\nb\r\n", nil, row("a"), none, nil, row("b"), none)
	writeIs(t, "\"\"\r\n\"\"\r\n", row(""), none, row(""))
}

// A field of no bytes has quotes if it is alone in its row, and only then.
func TestWriteEmptyFields(t *testing.T) {
	writeIs(t, "\"\"\r\n", row(""))
	writeIs(t, "\"\"\r\n\"\"\r\n", row(""), row(""))
	writeIs(t, ",\r\n", row("", ""))
	writeIs(t, ",,\r\n", row("", "", ""))
	writeIs(t, ",a\r\n", row("", "a"))
	writeIs(t, "a,\r\n", row("a", ""))
	writeIs(t, "a,,b\r\n", row("a", "", "b"))
	writeIs(t, "a\r\n\"\"\r\n,\r\nb\r\n", row("a"), row(""), row("", ""), row("b"))
}

// Fields of each kind that need quotes, alone and with others.
func TestWriteQuotes(t *testing.T) {
	for _, r := range []struct{ field, want string }{
		{",", `","`}, {"a,b", `"a,b"`}, {",a", `",a"`}, {"a,", `"a,"`},
		{`"`, `""""`}, {`""`, `""""""`}, {`a"b`, `"a""b"`}, {`"a`, `"""a"`}, {`a"`, `"a"""`}, {`"a"`, `"""a"""`}, {`","`, `""","""`},
		{"\r", "\"\r\""}, {"a\rb", "\"a\rb\""}, {"\n", "\"\n\""}, {"a\nb", "\"a\nb\""}, {"\r\n", "\"\r\n\""}, {"a\r\n", "\"a\r\n\""}, {"\n\r", "\"\n\r\""},
		{"\",\r\n", "\"\"\",\r\n\""}, {"é,😀", `"é,😀"`},
	} {
		writeIs(t, r.want+"\r\n", row(r.field))
		writeIs(t, r.want+","+r.want+"\r\n", row(r.field, r.field))
		writeIs(t, "x,"+r.want+",y\r\n", row("x", r.field, "y"))
		writeIs(t, ","+r.want+",\r\n", row("", r.field, ""))
		writeIs(t, r.want+"\r\n"+r.want+"\r\n", row(r.field), row(r.field))
	}
}

// Fields that need no quotes have none.
func TestWriteBare(t *testing.T) {
	for _, s := range []string{"a", " ", "  a  ", "\t", "a\tb", ";", "'", "a'b", `\`, `\n`, "|", "=1", "#x", "\x7f", "\u0085", "\u2028", "\ufeffa", "\ufffd", "é", "😀", "\U0010ffff"} {
		writeIs(t, s+"\r\n", row(s))
		writeIs(t, s+","+s+"\r\n", row(s, s))
		writeIs(t, s+",\",\"\r\n", row(s, ","))
	}
}

// Each byte, alone and behind each other, be it text or not.
func TestWriteEachByte(t *testing.T) {
	for a := range 256 {
		for b := range 256 {
			s := string([]byte{byte(a), byte(b)})
			heldWrite(t, row(s))
			heldWrite(t, row(s[:1]), row(s[1:], s[:1]))
		}
	}
	for _, s := range []string{"\xff", "\xe2\x82", "\x00", "\uffff"} {
		writeIs(t, s+"\r\n", row(s))
		writeIs(t, "\""+s+",\"\r\n", row(s+","))
	}
}

// All rows of up to three fields, and all lists of up to three rows, of pieces.
func TestWritePieces(t *testing.T) {
	fields := []string{"", "a", ",", `"`, "\r", "\n", "\r\n", "a,b", `a"b`, "é", " "}
	rows := [][]string{nil}
	for from := 0; len(rows[from]) < 3; from++ {
		for _, field := range fields {
			rows = append(rows, append(slices.Clone(rows[from]), field))
		}
	}
	for _, r := range rows {
		heldWrite(t, r)
		heldWrite(t, row("x"), r, nil, r)
	}
	some := append(rows[:12:12], row("", ""), row("a", ","), row(`"`, "\n", ""))
	for _, a := range some {
		for _, b := range some {
			for _, c := range some {
				heldWrite(t, a, b, c)
			}
		}
	}
}

// What is written is read: rows by chance, up to the limits.
func TestWrittenIsRead(t *testing.T) {
	chance := rand.New(rand.NewSource(5))
	pieces := []string{"a", "b", ",", `"`, "\r", "\n", "\r\n", "é", "😀", " ", "\t"}
	for range 3_000 {
		var l [][]string
		for range chance.Intn(12) {
			var fields []string
			for range chance.Intn(31) {
				field := ""
				for range chance.Intn(8) {
					field += pieces[chance.Intn(len(pieces))]
				}
				fields = append(fields, field)
			}
			l = append(l, fields)
		}
		heldWrite(t, l...)
		if again, err := Read(Write(l)); err != api.OK || Write(again) != Write(l) {
			t.Fatalf("P4.1: written, read and written again: %q, %d", l, err)
		}
	}
	full := slices.Repeat([]string{`"`}, 30)
	heldWrite(t, slices.Repeat([][]string{full}, 130)...)
	heldWrite(t, slices.Repeat([][]string{row("")}, 200)...)
	heldWrite(t, slices.Repeat([][]string{row(",", "")}, 200)...)
	heldWrite(t, row(rep(`"`, 9_998)))
}

// Write refuses nothing: what is too great to be read is written as it is.
func TestWriteTooGreat(t *testing.T) {
	writeIs(t, rep("a\r\n", 30_000), slices.Repeat([][]string{row("a")}, 30_000)...)
	if got := Write([][]string{make([]string, 31)}); got != rep(",", 30)+"\r\n" {
		t.Errorf("P4.1: Write of 31 fields: %q", got)
	}
	writeIs(t, "\""+rep(`""`, 100_000)+"\"\r\n", row(rep(`"`, 100_000)))
	for _, r := range []struct {
		l   [][]string
		err api.Errno
	}{{[][]string{make([]string, 31)}, api.ErrBig}, {slices.Repeat([][]string{row("a")}, 201), api.ErrBig}, {[][]string{row("\xff")}, api.ErrUtf}} {
		readIs(t, Write(r.l), r.err)
	}
}

// R3: the rows that are handed in, with the room behind their ends, stay as they are.
func TestWriteChangesNothing(t *testing.T) {
	fields := []string{"", "a,b", `"`, "", "\n", "c"}
	l := [][]string{fields[:1], fields[1:3], nil, fields[3:5], {"d"}, {"e"}}
	before := slices.Clone(fields)
	want := strings.Join([]string{`""`, `"a,b",""""`, ",\"\n\"", "d", ""}, "\r\n")
	for range 2 {
		if got := Write(l[:5]); got != want {
			t.Fatalf("P4.1: Write: %q; want %q", got, want)
		}
	}
	if !slices.Equal(fields, before) || !same(l, [][]string{before[:1], before[1:3], nil, before[3:5], {"d"}, {"e"}}) {
		t.Errorf("R3: Write changed the rows: %q, %q", l, fields)
	}
}
