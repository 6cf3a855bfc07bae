package command

import (
	"impost/api"
	"impost/pack"
)

// writer lays fields one behind the other; long: one of them was too long, and isn't among them.
type writer struct {
	b    []byte
	long bool
}

func (w *writer) num(n int) { w.b = pack.Num(w.b, n) }

// text lays nothing of what is too long: it may be far above what a command is.
func (w *writer) text(s string) {
	if len(s) > api.MaxText {
		w.long = true
		return
	}
	w.b = pack.Text(w.b, s)
}

func (w *writer) day(d api.Date) {
	w.num(d.Y)
	w.num(d.M)
	w.num(d.D)
}

func (w *writer) lines(l []api.Line) {
	if len(l) > api.MaxLines {
		w.long = true
		return
	}
	w.num(len(l))
	for _, x := range l {
		w.text(x.Text)
		w.text(x.Category)
		w.num(x.Count)
		w.num(x.Price)
	}
}

// Put is c as bytes.
func (c Command) Put() ([]byte, api.Errno) {
	if c.held == nil {
		return nil, api.ErrKind
	}
	w := &writer{}
	w.num(c.Kind())
	w.fields(c)
	if w.long || len(w.b) > api.MaxCommand {
		return nil, api.ErrLong
	}
	return w.b, api.OK
}

// fields lays what stands behind c's kind.
func (w *writer) fields(c Command) {
	switch v := c.held.(type) {
	case open:
		w.text(v.series)
		w.num(v.limit)
	case shut:
		w.text(v.series)
	case levy:
		w.text(v.row.Category)
		w.day(v.row.From)
		w.num(v.row.Bp)
	case Post:
		w.text(v.Series)
		w.day(v.Day)
		w.lines(v.Lines)
	case credit:
		w.text(v.series)
		w.day(v.day)
		w.text(v.of.Series)
		w.num(v.of.Number)
	case leave:
		w.num(v.session)
	case ask:
		w.text(v.series)
	}
}

// Get is the Command that b tells.
func Get(b []byte) (Command, api.Errno) {
	if len(b) > api.MaxCommand {
		return Command{}, api.ErrLong
	}
	r := pack.Read(b)
	kind := r.Num()
	if e := r.Err(); e != api.OK {
		return Command{}, e
	}
	// where the reader comes to an error it answers zero values from there on, and End tells it
	c, e := Of(read(r, kind))
	if e != api.OK {
		return Command{}, e
	}
	if e := r.End(); e != api.OK {
		return Command{}, e
	}
	return c, api.OK
}

// read is the flat command of that kind, with its fields out of r; of what is no kind it takes nothing.
func read(r *pack.Reader, kind int) api.Cmd {
	c := api.Cmd{Kind: kind}
	switch kind {
	case api.COpen:
		c.Series = text(r)
		c.Limit = r.Num()
	case api.CShut, api.CAsk:
		c.Series = text(r)
	case api.CLevy:
		c.Row.Category = text(r)
		c.Row.From = day(r)
		c.Row.Bp = r.Num()
	case api.CPost:
		c.Series = text(r)
		c.Day = day(r)
		c.Lines = lines(r)
	case api.CCredit:
		c.Series = text(r)
		c.Day = day(r)
		c.Of.Series = text(r)
		c.Of.Number = r.Num()
	case api.CLeave:
		c.Session = r.Num()
	}
	return c
}

func text(r *pack.Reader) string { return r.Text(api.MaxText) }

func day(r *pack.Reader) api.Date {
	var d api.Date
	d.Y = r.Num()
	d.M = r.Num()
	d.D = r.Num()
	return d
}

func lines(r *pack.Reader) []api.Line {
	var l []api.Line
	for range r.Count(api.MaxLines) {
		var x api.Line
		x.Text = text(r)
		x.Category = text(r)
		x.Count = r.Num()
		x.Price = r.Num()
		l = append(l, x)
	}
	return l
}
