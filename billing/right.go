package billing

import (
	"math/bits"
	"slices"

	"impost/api"
	"impost/date"
	"impost/invoice"
	"impost/post"
	"impost/rate"
	"impost/series"
	"impost/session"
	"impost/sign"
	"impost/vat"
)

// Right tells whether s may be the state of the machine. The number of invoices is asked ahead of what they are, so that a long list isn't gone through.
func Right(s api.State) bool {
	return vat.Right(s.Table) &&
		series.Right(s.Series) &&
		attended(s.Sessions, s.Next) &&
		len(s.Posted) <= api.MaxPosted &&
		numbered(s.Posted, s.Series) &&
		reckoned(s.Posted) &&
		credited(s.Posted) &&
		booked(s.Posted, s.Book)
}

// attended tells whether l are sessions that came ahead of the one that next will be.
func attended(l []api.Session, next int) bool {
	if next < 1 || next > api.MaxSession || !session.Right(l) {
		return false
	}
	for _, s := range l {
		if s.Id >= next {
			return false
		}
	}
	return true
}

// numbered tells whether the invoices bear all numbers that their series have issued, and in that order. Names of right series differ, so each invoice is met once at most; one that isn't met has no series.
func numbered(l []api.Posted, of []api.Series) bool {
	met := 0
	for _, s := range of {
		n, ok := count(l, s.Name)
		if !ok || n != s.Next-1 {
			return false
		}
		met += n
	}
	return met == len(l)
}

// count is how many invoices the series of that name has; false, if they aren't numbered one behind the other.
func count(l []api.Posted, name string) (int, bool) {
	n := 0
	for _, p := range l {
		if p.Series != name {
			continue
		}
		n++
		if p.Number != n {
			return 0, false
		}
	}
	return n, true
}

// reckoned tells whether each invoice has a day, and a total that fits together.
func reckoned(l []api.Posted) bool {
	for _, p := range l {
		if !date.Right(p.Day) || !parted(p.Total.Parts) || !summed(p.Total) {
			return false
		}
	}
	return true
}

// parted tells whether l may be the parts of a total. A Bp that is none is refused by rate.Tax.
func parted(l []api.Part) bool {
	if len(l) < 1 || len(l) > api.MaxLines {
		return false
	}
	for at, p := range l {
		if !sign.Name(p.Category) || at > 0 && l[at-1].Category >= p.Category {
			return false
		}
		if tax, e := rate.Tax(p.Net, p.Bp); e != api.OK || tax != p.Tax {
			return false
		}
	}
	return true
}

// summed tells whether t's amounts are the sums that they must be. A credit's parts may go beyond an int on their way, though those of its invoice didn't, so the sums are held against each other in two words.
func summed(t api.Total) bool {
	var net, tax wide
	for _, p := range t.Parts {
		net, tax = net.plus(p.Net), tax.plus(p.Tax)
	}
	return net == wide{}.plus(t.Net) && tax == wide{}.plus(t.Tax) && wide{}.plus(t.Net).plus(t.Tax) == wide{}.plus(t.Gross)
}

// wide is a sum of amounts in two words.
type wide struct{ high, low uint64 }

// plus is w and n. The high word takes n's sign and the carry of the low one.
func (w wide) plus(n int) wide {
	low, carry := bits.Add64(w.low, uint64(n), 0)
	high, _ := bits.Add64(w.high, uint64(n>>63), carry)
	return wide{high, low}
}

// credited tells whether each credit takes an invoice ahead of it back, and each invoice that is taken back, and no other, has one credit.
func credited(l []api.Posted) bool {
	for at, p := range l {
		if p.Of != (api.Ref{}) && !undoes(p, l[:at]) {
			return false
		}
		want := 0
		if p.Back {
			want = 1
		}
		if credits(l, p.Ref) != want {
			return false
		}
	}
	return true
}

// undoes tells whether the credit p takes one of the invoices ahead of it back.
func undoes(p api.Posted, ahead []api.Posted) bool {
	at := index(ahead, p.Of)
	if at == len(ahead) || ahead[at].Of != (api.Ref{}) || date.Before(p.Day, ahead[at].Day) {
		return false
	}
	t, e := invoice.Back(ahead[at].Total)
	return e == api.OK && same(t, p.Total)
}

// same tells whether two totals are alike.
func same(a, b api.Total) bool {
	return a.Net == b.Net && a.Tax == b.Tax && a.Gross == b.Gross && slices.Equal(a.Parts, b.Parts)
}

// credits is how many of l have that Of.
func credits(l []api.Posted, of api.Ref) int {
	n := 0
	for _, p := range l {
		if p.Of == of {
			n++
		}
	}
	return n
}

// booked tells whether the book is what all invoices come to. Their entries are entered at once, which comes to the same as one behind the other, and puts the accounts in order once alone.
func booked(l []api.Posted, book []api.Balance) bool {
	var all []api.Balance
	for _, p := range l {
		more, e := post.Entries(p.Total)
		if e != api.OK {
			return false
		}
		all = append(all, more...)
	}
	want, e := post.Enter(nil, all)
	return e == api.OK && slices.Equal(want, book)
}
