package image

import (
	"impost/api"
	"impost/pack"
)

// state is what r tells of a state, field by field in the writer's order. Where r comes to an error it answers zero values from there on, and its End tells it.
func state(r *pack.Reader) api.State {
	var s api.State
	s.Table = items(r, api.MaxRates, rateOf)
	s.Series = items(r, api.MaxSeries, seriesOf)
	s.Posted = items(r, api.MaxPosted, postedOf)
	s.Sessions = items(r, api.MaxSessions, sessionOf)
	s.Next = r.Num()
	return s
}

// items is a list of at most so many, each as read tells it. One without any is nil, as in a new state.
func items[T any](r *pack.Reader, most int, read func(*pack.Reader) T) []T {
	var l []T
	for range r.Count(most) {
		l = append(l, read(r))
	}
	return l
}

func text(r *pack.Reader) string { return r.Text(api.MaxText) }

func day(r *pack.Reader) api.Date {
	var d api.Date
	d.Y = r.Num()
	d.M = r.Num()
	d.D = r.Num()
	return d
}

func rateOf(r *pack.Reader) api.Rate {
	var x api.Rate
	x.Category = text(r)
	x.From = day(r)
	x.Bp = r.Num()
	return x
}

func seriesOf(r *pack.Reader) api.Series {
	var x api.Series
	x.Name = text(r)
	x.Limit = r.Num()
	x.Shut = r.Flag()
	return x
}

func postedOf(r *pack.Reader) api.Posted {
	var x api.Posted
	x.Series = text(r)
	x.Day = day(r)
	x.Of.Series = text(r)
	x.Of.Number = r.Num()
	x.Total.Parts = items(r, api.MaxLines, partOf)
	return x
}

func partOf(r *pack.Reader) api.Part {
	var x api.Part
	x.Category = text(r)
	x.Bp = r.Num()
	x.Net = r.Num()
	return x
}

func sessionOf(r *pack.Reader) api.Session {
	var x api.Session
	x.Id = r.Num()
	x.Last = r.Num()
	x.Reply.Why = api.Errno(r.Num())
	x.Reply.Number = r.Num()
	x.Reply.Gross = r.Num()
	return x
}
