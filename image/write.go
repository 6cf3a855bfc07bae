package image

import (
	"impost/api"
	"impost/pack"
)

// writer lays things one behind the other. Each is packed by itself: behind all the others, pack would copy these each time.
type writer struct{ b []byte }

func (w *writer) num(n int)     { w.b = append(w.b, pack.Num(nil, n)...) }
func (w *writer) text(s string) { w.b = append(w.b, pack.Text(nil, s)...) }
func (w *writer) flag(f bool)   { w.b = append(w.b, pack.Flag(nil, f)...) }

func (w *writer) state(s api.State) {
	list(w, s.Table, w.rate)
	list(w, s.Series, w.series)
	list(w, s.Posted, w.posted)
	list(w, s.Sessions, w.session)
	w.num(s.Next)
}

// list lays how many l has, and each by lay.
func list[T any](w *writer, l []T, lay func(T)) {
	w.num(len(l))
	for _, x := range l {
		lay(x)
	}
}

func (w *writer) day(d api.Date) {
	w.num(d.Y)
	w.num(d.M)
	w.num(d.D)
}

func (w *writer) rate(r api.Rate) {
	w.text(r.Category)
	w.day(r.From)
	w.num(r.Bp)
}

func (w *writer) series(s api.Series) {
	w.text(s.Name)
	w.num(s.Limit)
	w.flag(s.Shut)
}

func (w *writer) posted(p api.Posted) {
	w.text(p.Series)
	w.day(p.Day)
	w.text(p.Of.Series)
	w.num(p.Of.Number)
	list(w, p.Total.Parts, w.part)
}

func (w *writer) part(p api.Part) {
	w.text(p.Category)
	w.num(p.Bp)
	w.num(p.Net)
}

func (w *writer) session(s api.Session) {
	w.num(s.Id)
	w.num(s.Last)
	w.num(int(s.Reply.Why))
	w.num(s.Reply.Number)
	w.num(s.Reply.Gross)
}
