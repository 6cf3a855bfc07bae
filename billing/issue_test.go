package billing

import (
	"slices"
	"strings"
	"testing"

	"impost/api"
	"impost/post"
)

// P14.3

// posting is ready, with n invoices of 1 each in the series a, whose limit is cap40.
func posting(t *testing.T, n int) *client {
	t.Helper()
	c := ready(t)
	c.is(cOpen("a", cap40), api.Reply{})
	for i := range n {
		c.is(cPost("a", today(), line(1, 1, "zero")), told(i+1, 1))
	}
	return c
}

// TestErrorsOfTheLayers: each refusal that the lists beneath have is told as it is.
func TestErrorsOfTheLayers(t *testing.T) {
	s := some()
	long := strings.Repeat("a", 25)
	tests := []struct {
		cmd api.Cmd
		e   api.Errno
	}{
		{cOpen("", 1), api.ErrName}, {cOpen(long, 1), api.ErrName}, {cOpen("a\xff", 1), api.ErrName}, {cOpen("z", 0), api.ErrArg}, {cOpen("z", far), api.ErrArg}, {cOpen("z", cap40+1), api.ErrArg}, {cOpen("a", 1), api.ErrTaken}, {cOpen("c", 1), api.ErrTaken},
		{cShut("z"), api.ErrNone}, {cShut(""), api.ErrNone}, {cShut("c"), api.ErrShut},
		{cLevy("7", today(), 1), api.ErrName}, {cLevy("\xff", today(), 1), api.ErrName}, {cLevy("std", day(2026, 2, 29), 1), api.ErrDate}, {cLevy("std", today(), -1), api.ErrRate}, {cLevy("std", today(), 100001), api.ErrRate}, {cLevy("std", day(2000, 1, 1), 5), api.ErrTaken},
		{cPost("a", today()), api.ErrArg}, {cPost("a", today(), slices.Repeat([]api.Line{line(1, 1, "std")}, 13)...), api.ErrLong}, {cPost("a", day(2026, 2, 29), line(1, 1, "std")), api.ErrDate}, {cPost("a", today(), api.Line{Text: strings.Repeat("x", 65), Category: "std", Count: 1}), api.ErrLong}, {cPost("a", today(), line(1, 1, "st d")), api.ErrName}, {cPost("a", today(), line(1, 1, "std\xff")), api.ErrName}, {cPost("a", today(), line(0, 1, "std")), api.ErrArg}, {cPost("a", today(), line(1<<20+1, 1, "std")), api.ErrArg}, {cPost("a", today(), line(1, 1, "rent")), api.ErrRate}, {cPost("a", day(1999, 12, 31), line(1, 1, "std")), api.ErrRate}, {cPost("a", today(), line(2, 1<<62, "std")), api.ErrOver}, {cPost("a", today(), line(1, most, "std")), api.ErrOver},
		{cPost("z", today(), line(1, 1, "std")), api.ErrNone}, {cPost("", today(), line(1, 1, "std")), api.ErrNone}, {cPost("A", today(), line(1, 1, "std")), api.ErrNone}, {cPost("b", today(), line(1, 1, "std")), api.ErrFull}, {cPost("c", today(), line(1, 1, "std")), api.ErrShut},
		{cAsk("z"), api.ErrNone}, {cAsk(""), api.ErrNone}, {cAsk("a\xff"), api.ErrNone},
	}
	for _, x := range tests {
		remembers(t, s, x.cmd, x.e)
	}
}

func TestTablesAndSeriesAreFull(t *testing.T) {
	c := begin(t)
	for i := range eight {
		c.is(cOpen("s"+string(rune('a'+i)), i+1), api.Reply{})
	}
	remembers(t, c.s, cOpen("t", 1), api.ErrFull)
	for i := range 24 {
		c.is(cLevy("std", day(2000+i, 1, 1), i), api.Reply{})
	}
	remembers(t, c.s, cLevy("std", day(1999, 1, 1), 1), api.ErrLong)
}

func TestALimitIsReached(t *testing.T) {
	for _, limit := range []int{1, 2, 3, 40} {
		c := ready(t)
		c.is(cOpen("a", limit), api.Reply{})
		c.is(cOpen("b", 1), api.Reply{})
		for n := 1; n <= limit; n++ {
			c.is(cAsk("a"), told(n-1, n-1))
			c.is(cPost("a", today(), line(1, 1, "zero")), told(n, 1))
		}
		c.is(cAsk("a"), told(limit, limit))
		for range 2 {
			remembers(t, c.s, cPost("a", today(), line(1, 1, "zero")), api.ErrFull)
			remembers(t, c.s, cCredit("a", today(), "a", 1), api.ErrFull)
		}
		if limit < 40 {
			c.is(cCredit("b", today(), "a", limit), told(1, -1))
		}
	}
}

func TestMaxPosted(t *testing.T) {
	c := posting(t, forty-1)
	c.is(cCredit("a", today(), "a", 7), told(forty, -1))
	if len(c.s.Posted) != forty || !Right(c.s) {
		t.Fatal(c.s)
	}
	remembers(t, c.s, cPost("a", today(), line(1, 1, "zero")), api.ErrFull)
	remembers(t, c.s, cCredit("a", today(), "a", 1), api.ErrFull)
	// all else goes on
	c.is(cAsk("a"), told(forty, 38))
	c.is(cOpen("b", 1), api.Reply{})
	c.is(cLevy("x", today(), 1), api.Reply{})
	c.is(cShut("a"), api.Reply{})
}

// TestAskTellsTheOwed: nothing, as long as there is no account; the least and the greatest amount.
func TestAskTellsTheOwed(t *testing.T) {
	c := ready(t)
	c.is(cOpen("a", 9), api.Reply{})
	c.is(cAsk("a"), told(0, 0))
	c.is(cPost("a", today(), line(1, most, "zero")), told(1, most))
	c.is(cAsk("a"), told(1, most))
	c.is(cCredit("a", today(), "a", 1), told(2, -most))
	c.is(cAsk("a"), told(2, 0))
	c.is(cLevy("b", today(), 0), api.Reply{})
	c.is(cPost("a", today(), line(1, far/2, "zero"), line(1, far/2, "b")), told(3, far))
	c.is(cAsk("a"), told(3, far))
	c.is(cShut("a"), api.Reply{})
	c.is(cAsk("a"), told(3, far))
}

func TestCreditDays(t *testing.T) {
	s := some() // b 1 is of 2026-11-16
	for _, d := range []api.Date{day(2026, 11, 15), day(2026, 10, 31), day(2025, 12, 31), day(1, 1, 1), {}, day(2026, 11, 31), day(2027, 2, 29), day(2027, 0, 1), day(2027, 13, 1), day(10000, 1, 1), day(most, 1, 1), day(far, far, far), day(2027, 1, most)} {
		remembers(t, s, cCredit("a", d, "b", 1), api.ErrDate)
	}
	for _, d := range []api.Date{day(2026, 11, 16), day(2026, 11, 17), day(2026, 12, 1), day(2027, 1, 1), day(9999, 12, 31)} {
		got, r := checked(t, s, by(1, 1, cCredit("a", d, "b", 1)))
		if p := got.Posted[4]; r != told(3, -434) || p.Day != d || p.Of != ref("b", 1) || p.Back || !got.Posted[1].Back {
			t.Error(d, r, got)
		}
	}
}

func TestCreditOfWhat(t *testing.T) {
	s := some()
	for _, of := range []api.Ref{{}, ref("a", 0), ref("a", 3), ref("a", -1), ref("a", far), ref("a", most), ref("b", 2), ref("d", 1), ref("d", 0), ref("z", 1), ref("", 1), ref("A", 1), ref("a\xff", 1), ref("aa", 1)} {
		remembers(t, s, cCredit("a", today(), of.Series, of.Number), api.ErrNone)
	}
	remembers(t, s, cCredit("a", today(), "a", 1), api.ErrTaken) // it was taken back
	remembers(t, s, cCredit("a", today(), "c", 1), api.ErrTaken) // it is a credit
	got, r := checked(t, s, by(1, 1, cCredit("d", today(), "a", 2)))
	if r != told(1, 60) || !got.Posted[3].Back {
		t.Error(got, r)
	}
	remembers(t, got, cCredit("d", today(), "a", 2), api.ErrTaken)
	remembers(t, got, cCredit("d", today(), "d", 1), api.ErrTaken)
}

// TestACreditIsOfItsOwnTotal: rates that came behind the invoice play no part, nor does a series that was shut.
func TestACreditIsOfItsOwnTotal(t *testing.T) {
	c := ready(t)
	c.is(cOpen("a", 5), api.Reply{})
	c.is(cOpen("b", 5), api.Reply{})
	c.is(cPost("a", today(), line(1, 100, "std")), told(1, 119))
	c.is(cLevy("std", today(), 700), api.Reply{})
	c.is(cShut("a"), api.Reply{})
	c.is(cCredit("b", today(), "a", 1), told(1, -119))
	c.is(cPost("b", today(), line(1, 100, "std")), told(2, 107))
	c.is(cCredit("b", day(2027, 1, 1), "b", 2), told(3, -107))
	for _, b := range c.s.Book {
		if b.Amount != 0 {
			t.Error(c.s.Book)
		}
	}
}

// steep is a state with rates of none for a, b and zero, of all for full; series x, and y, which is shut.
func steep(t *testing.T) *client {
	t.Helper()
	c := begin(t)
	for _, category := range []string{"a", "b", "zero"} {
		c.is(cLevy(category, day(2000, 1, 1), 0), api.Reply{})
	}
	c.is(cLevy("full", day(2000, 1, 1), 10000), api.Reply{})
	c.is(cOpen("x", 99), api.Reply{})
	c.is(cOpen("y", 99), api.Reply{})
	c.is(cShut("y"), api.Reply{})
	return c
}

// TestTooMuch: a total, its entries, and each account of the book, on either side of what an int can be.
func TestTooMuch(t *testing.T) {
	c := steep(t)
	remembers(t, c.s, cPost("x", today(), line(1, far, "zero")), api.ErrOver)                // its entries
	remembers(t, c.s, cPost("x", today(), line(1, most, "a"), line(1, 1, "b")), api.ErrOver) // its Net
	remembers(t, c.s, cPost("x", today(), line(1, most/2+1, "full")), api.ErrOver)           // its Gross
	c.is(cPost("x", today(), line(1, most, "a")), told(1, most))                             // owed most
	remembers(t, c.s, cPost("x", today(), line(1, 1, "b")), api.ErrOver)                     // owed
	c.is(cPost("x", today(), line(1, -2, "b"), line(1, 1, "a")), told(2, -1))                // net/a is the least amount
	remembers(t, c.s, cPost("x", today(), line(1, -1, "b"), line(1, 1, "a")), api.ErrOver)   // net/a
	remembers(t, c.s, cCredit("x", today(), "x", 9), api.ErrNone)                            // nothing was issued
	c.is(cCredit("x", today(), "x", 1), told(3, -most))                                      // owed -1
	c.is(cPost("x", today(), line(1, -most, "zero")), told(4, -most))                        // owed the least amount
	remembers(t, c.s, cCredit("x", today(), "x", 1), api.ErrTaken)                           // as it was
	remembers(t, c.s, cPost("x", today(), line(1, -1, "b")), api.ErrOver)                    // owed
	c.is(cPost("x", today(), line(1, 0, "zero")), told(5, 0))                                // nothing is added
	if p := c.s.Posted; len(p) != 5 || !Right(c.s) || !post.Balanced(c.s.Book) {
		t.Error(p)
	}
}

// TestACreditThatIsTooMuch: what takes it back can't be, or the book has no room for it.
func TestACreditThatIsTooMuch(t *testing.T) {
	c := steep(t)
	c.is(cPost("x", today(), line(1, far/2, "a"), line(1, far/2, "b")), told(1, far))
	remembers(t, c.s, cCredit("x", today(), "x", 1), api.ErrOver)
	c = steep(t)
	for n, price := range []int{most, -most, -most} {
		c.is(cPost("x", today(), line(1, price, "a")), told(n+1, price))
	}
	remembers(t, c.s, cCredit("x", today(), "x", 1), api.ErrOver)
	c.is(cCredit("x", today(), "x", 2), told(4, most))
	c.is(cCredit("x", today(), "x", 3), told(5, most))
	c.is(cCredit("x", today(), "x", 1), told(6, -most))
	c.is(cAsk("x"), told(6, 0))
}

// TestACreditsPartsGoFarOnTheirWay: its Net is an int, though the sum of its first parts is none.
func TestACreditsPartsGoFarOnTheirWay(t *testing.T) {
	c := steep(t)
	c.is(cPost("x", today(), line(1, -1<<62, "a"), line(1, -1<<62, "b"), line(1, 1<<62, "zero")), told(1, -1<<62))
	c.is(cCredit("x", today(), "x", 1), told(2, 1<<62))
	if !Right(c.s) {
		t.Error("not right")
	}
}

// The order of refusals.

func TestAWrongStateComesFirst(t *testing.T) {
	s := some()
	s.Book[0].Amount++
	for kind := -1; kind <= 9; kind++ {
		for _, c := range []api.Call{by(1, 1, noisy(kind)), by(2, 5, noisy(kind)), by(2, 4, noisy(kind)), by(9, 0, noisy(kind)), {Cmd: api.Cmd{Kind: kind}}} {
			stays(t, s, c, why(api.ErrArg))
		}
	}
}

// TestTheSessionComesAheadOfWhatIsDone: what would be refused when it is done is refused by the session first.
func TestTheSessionComesAheadOfWhatIsDone(t *testing.T) {
	for _, c := range []api.Cmd{cOpen("7", 0), cShut("zz"), cLevy("7", api.Date{}, -1), cPost("zz", api.Date{}), cCredit("zz", api.Date{}, "", 0), cLeave(9), cAsk("zz"), cLeave(2)} {
		stays(t, some(), by(3, 0, c), why(api.ErrGone))
		stays(t, some(), by(2, 0, c), why(api.ErrArg))
		stays(t, some(), by(2, cap40+1, c), why(api.ErrArg))
		stays(t, some(), by(2, 4, c), why(api.ErrStale))
		stays(t, some(), by(2, 5, c), told(1, 119))
	}
}

func TestTheOrderOfCPost(t *testing.T) {
	full := steep(t)
	for n := 1; n <= forty; n++ {
		price := 0
		if n == 1 {
			price = most
		}
		full.is(cPost("x", today(), line(1, price, "a")), told(n, price))
	}
	full.is(cOpen("w", 1), api.Reply{})
	least, one := line(1, far, "zero"), line(1, 1, "b")
	tests := []struct {
		what string
		cmd  api.Cmd
		e    api.Errno
	}{
		{"Total's ahead of Take's ErrNone", cPost("z", today()), api.ErrArg},
		{"Total's ErrDate ahead of Take's ErrNone", cPost("z", api.Date{}, one), api.ErrDate},
		{"Total's ErrRate ahead of Take's ErrShut", cPost("y", today(), line(1, 1, "rent")), api.ErrRate},
		{"Total's ErrOver ahead of Take's ErrShut", cPost("y", today(), line(2, most, "a")), api.ErrOver},
		{"Total's ErrOver ahead of ErrFull", cPost("x", today(), line(2, most, "a")), api.ErrOver},
		{"Take's ErrNone ahead of ErrFull", cPost("z", today(), least), api.ErrNone},
		{"Take's ErrShut ahead of ErrFull", cPost("y", today(), least), api.ErrShut},
		{"ErrFull ahead of Entries' ErrOver", cPost("x", today(), least), api.ErrFull},
		{"ErrFull ahead of Enter's ErrOver", cPost("x", today(), one), api.ErrFull},
	}
	for _, x := range tests {
		t.Run(x.what, func(t *testing.T) { remembers(t, full.s, x.cmd, x.e) })
	}
	c := steep(t)
	c.is(cPost("x", today(), line(1, most, "a")), told(1, most))
	c.is(cOpen("w", 1), api.Reply{})
	c.is(cPost("w", today(), line(1, 0, "a")), told(1, 0))
	for _, l := range []api.Line{least, one} {
		remembers(t, c.s, cPost("z", today(), l), api.ErrNone)
		remembers(t, c.s, cPost("y", today(), l), api.ErrShut)
		remembers(t, c.s, cPost("w", today(), l), api.ErrFull)
		remembers(t, c.s, cPost("x", today(), l), api.ErrOver)
	}
}

func TestTheOrderOfCCredit(t *testing.T) {
	c := steep(t)
	late := day(2027, 1, 1)
	c.is(cPost("x", late, line(1, far/2, "a"), line(1, far/2, "b")), told(1, far)) // it can't be taken back
	c.is(cPost("x", late, line(1, most, "zero")), told(2, most))                   // owed -1
	c.is(cPost("x", late, line(1, -most, "full")), why(api.ErrOver))
	c.is(cPost("x", late, line(1, 1, "zero")), told(3, 1))         // owed 0
	c.is(cCredit("x", late, "x", 3), told(4, -1))                  // owed -1
	c.is(cPost("x", late, line(1, -most, "zero")), told(5, -most)) // owed the least amount
	c.is(cOpen("w", 1), api.Reply{})
	c.is(cPost("w", late, line(1, 0, "a")), told(1, 0)) // w is at its limit
	tests := []struct {
		what string
		cmd  api.Cmd
		e    api.Errno
	}{
		{"ErrNone ahead of ErrDate and ErrShut", cCredit("y", api.Date{}, "x", 9), api.ErrNone},
		{"ErrNone ahead of ErrFull", cCredit("w", late, "x", 9), api.ErrNone},
		{"ErrTaken ahead of ErrDate and ErrNone, of one taken back", cCredit("z", api.Date{}, "x", 3), api.ErrTaken},
		{"ErrTaken ahead of ErrDate and ErrShut, of a credit", cCredit("y", today(), "x", 4), api.ErrTaken},
		{"ErrDate ahead of ErrOver, not right", cCredit("y", day(2027, 2, 29), "x", 1), api.ErrDate},
		{"ErrDate ahead of ErrOver, too early", cCredit("y", today(), "x", 1), api.ErrDate},
		{"ErrDate ahead of ErrNone", cCredit("z", today(), "x", 2), api.ErrDate},
		{"Back's ErrOver ahead of ErrNone", cCredit("z", late, "x", 1), api.ErrOver},
		{"Back's ErrOver ahead of ErrShut", cCredit("y", late, "x", 1), api.ErrOver},
		{"Back's ErrOver ahead of ErrFull", cCredit("w", late, "x", 1), api.ErrOver},
		{"Take's ErrNone ahead of Enter's ErrOver", cCredit("z", late, "x", 2), api.ErrNone},
		{"Take's ErrShut ahead of Enter's ErrOver", cCredit("y", late, "x", 2), api.ErrShut},
		{"Take's ErrFull ahead of Enter's ErrOver", cCredit("w", late, "x", 2), api.ErrFull},
		{"Enter's ErrOver", cCredit("x", late, "x", 2), api.ErrOver},
	}
	for _, x := range tests {
		t.Run(x.what, func(t *testing.T) { remembers(t, c.s, x.cmd, x.e) })
	}
	for range forty - len(c.s.Posted) {
		c.call(cPost("x", late, line(1, 0, "a")))
	}
	remembers(t, c.s, cCredit("y", late, "x", 2), api.ErrShut) // ahead of MaxPosted's ErrFull
	remembers(t, c.s, cCredit("z", late, "x", 2), api.ErrNone)
	remembers(t, c.s, cCredit("x", late, "x", 2), api.ErrFull) // ahead of Enter's ErrOver
	remembers(t, c.s, cCredit("x", late, "x", 1), api.ErrOver) // behind Back's
}
