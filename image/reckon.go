package image

import (
	"impost/api"
	"impost/post"
	"impost/rate"
)

// reckon fills in what isn't written of s; false, if a Tax or an account can't be. It asks nothing else, as billing.Right does.
func reckon(s *api.State) bool {
	number(s.Posted)
	credit(s.Posted)
	advance(s.Series, s.Posted)
	for at := range s.Posted {
		if !total(&s.Posted[at].Total) {
			return false
		}
	}
	var ok bool
	s.Book, ok = book(s.Posted)
	return ok
}

// number gives the invoices of each series the numbers in which they stand.
func number(l []api.Posted) {
	for at := range l {
		l[at].Number = 1 + count(l[:at], l[at].Series)
	}
}

// advance puts each series behind its last invoice.
func advance(of []api.Series, l []api.Posted) {
	for at := range of {
		of[at].Next = 1 + count(l, of[at].Name)
	}
}

// count is how many invoices the series of that name has in l.
func count(l []api.Posted, name string) int {
	n := 0
	for _, p := range l {
		if p.Series == name {
			n++
		}
	}
	return n
}

// credit marks the invoices that a later one takes back.
func credit(l []api.Posted) {
	for at := range l {
		l[at].Back = credited(l[at+1:], l[at].Ref)
	}
}

// credited tells whether one of l takes the invoice of that name back.
func credited(l []api.Posted, of api.Ref) bool {
	for _, p := range l {
		if p.Of == of {
			return true
		}
	}
	return false
}

// total reckons t from its parts' Nets; false, if a part has no Tax. A credit's sums may pass beyond an int on their way and come back, as they do here, where they wrap; those that don't come back are not the exact ones that billing.Right asks for.
func total(t *api.Total) bool {
	for at := range t.Parts {
		p := &t.Parts[at]
		tax, e := rate.Tax(p.Net, p.Bp)
		if e != api.OK {
			return false
		}
		p.Tax = tax
		t.Net += p.Net
		t.Tax += p.Tax
	}
	t.Gross = t.Net + t.Tax
	return true
}

// book is what all invoices come to, entered one behind the other; false, if an account can't be.
func book(l []api.Posted) ([]api.Balance, bool) {
	var out []api.Balance
	for _, p := range l {
		more, e := post.Entries(p.Total)
		if e != api.OK {
			return nil, false
		}
		if out, e = post.Enter(out, more); e != api.OK {
			return nil, false
		}
	}
	return out, true
}
