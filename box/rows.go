package box

import (
	"bytes"
	"slices"

	"cohort/api"
	"cohort/batch"
	"cohort/conf"
	"cohort/num"
)

// fields is what is done with each kind of place of a state: one to lay, one
// to read.
type fields struct {
	tick    func(size int, place *uint64)
	number  func(size int, place *int64)
	pool    func(place *int)
	small   func(place *uint8)
	version func(place *uint32)
	truth   func(place *bool)
}

// each kind of row hands on its places, in the order of their bytes.

func eachInst(i *api.Inst, f fields) {
	f.tick(8, &i.Token)
	f.pool(&i.Pool)
	f.number(1, &i.Weight)
	f.truth(&i.Spot)
	f.small(&i.State)
	f.tick(8, &i.Due)
	f.truth(&i.Noticed)
	f.tick(8, &i.Kill)
	f.truth(&i.Risk)
	f.truth(&i.Held)
	f.version(&i.Version)
}

func eachOpen(o *api.Open, f fields) {
	f.small(&o.R.Kind)
	f.pool(&o.R.Pool)
	f.truth(&o.R.Warm)
	f.tick(8, &o.R.Id)
	f.tick(8, &o.Since)
	f.number(1, &o.Weight)
	f.truth(&o.Spot)
	f.version(&o.Version)
}

func eachQuote(q *api.Quote, f fields) {
	f.number(4, &q.Price)
	f.number(4, &q.Score)
	f.tick(8, &q.Until)
}

func eachOther(s *api.State, f fields) {
	f.version(&s.Version)
	f.tick(8, &s.Now)
	f.number(4, &s.Desired)
	f.tick(8, &s.Token)
	f.tick(8, &s.Until)
	f.truth(&s.Refresh.On)
	f.number(1, &s.Refresh.Least)
	f.number(1, &s.Refresh.Most)
	f.number(1, &s.Refresh.Stop)
	f.truth(&s.Refresh.Stopped)
	f.truth(&s.Refresh.Back)
}

// layer puts numbers one behind the other.
type layer struct{ b []byte }

func (l *layer) lay(n uint64, size int) {
	x, _ := num.Put(n, size)
	l.b = append(l.b, x...)
}

func (l *layer) fields() fields {
	return fields{
		tick:    func(size int, place *uint64) { l.lay(*place, size) },
		number:  func(size int, place *int64) { l.lay(uint64(*place), size) },
		pool:    func(place *int) { l.lay(uint64(*place), 1) },
		small:   func(place *uint8) { l.lay(uint64(*place), 1) },
		version: func(place *uint32) { l.lay(uint64(*place), 4) },
		truth: func(place *bool) {
			if *place {
				l.lay(1, 1)
			} else {
				l.lay(0, 1)
			}
		},
	}
}

// laid tells the row of a key whose places each hands on.
func laid(key string, each func(f fields)) api.Row {
	l := &layer{}
	each(l.fields())
	return api.Row{Key: key, Value: l.b}
}

// keyOf tells the key of a kind and an Id, the highest byte first.
func keyOf(kind byte, id uint64) string {
	b, _ := num.Put(id, 8)
	slices.Reverse(b)
	return string(append([]byte{kind}, b...))
}

// placeOf tells the key of a kind and a place.
func placeOf(kind byte, place int) string { return string([]byte{kind, byte(place)}) }

// Rows tells the state's rows; ErrArg, if it may not be.
func Rows(s api.State) ([]api.Row, api.Errno) {
	if !May(s) {
		return nil, api.ErrArg
	}
	var l []api.Row
	if !isNone(s.Before) {
		b, _ := conf.Bytes(s.Before)
		l = append(l, api.Row{Key: "b", Value: b})
	}
	b, _ := conf.Bytes(s.Config)
	l = append(l, api.Row{Key: "c", Value: b})
	for _, i := range s.Insts {
		l = append(l, laid(keyOf('i', i.Id), func(f fields) { eachInst(&i, f) }))
	}
	for _, o := range s.Opens {
		l = append(l, laid(keyOf('o', o.R.Token), func(f fields) { eachOpen(&o, f) }))
	}
	for n, tick := range s.Next {
		l = append(l, laid(placeOf('p', n), func(f fields) { f.tick(8, &tick) }))
	}
	for n, q := range s.Quotes {
		l = append(l, laid(placeOf('q', n), func(f fields) { eachQuote(&q, f) }))
	}
	return append(l, laid("s", func(f fields) { eachOther(&s, f) })), api.OK
}

// reader takes numbers from the left; 0, where they do not stand there.
type reader struct {
	b  []byte
	at int
}

func (r *reader) take(size int) uint64 {
	n, e := num.Get(r.b, r.at, size)
	if e != api.OK {
		return 0
	}
	r.at += size
	return n
}

func (r *reader) fields() fields {
	return fields{
		tick:    func(size int, place *uint64) { *place = r.take(size) },
		number:  func(size int, place *int64) { *place = int64(r.take(size)) },
		pool:    func(place *int) { *place = int(r.take(1)) },
		small:   func(place *uint8) { *place = uint8(r.take(1)) },
		version: func(place *uint32) { *place = uint32(r.take(4)) },
		truth:   func(place *bool) { *place = r.take(1) == 1 },
	}
}

// idOf tells the Id that a key has behind its kind.
func idOf(key string) uint64 {
	b := []byte(key)[1:]
	slices.Reverse(b)
	n, e := num.Get(b, 0, 8)
	if e != api.OK {
		return 0
	}
	return n
}

// readers tells what reads the rows of a kind into a state.
func readers() map[byte]func(s *api.State, r api.Row) {
	return map[byte]func(s *api.State, r api.Row){
		'b': func(s *api.State, r api.Row) { s.Before, _, _ = conf.Read(r.Value, 0) },
		'c': func(s *api.State, r api.Row) { s.Config, _, _ = conf.Read(r.Value, 0) },
		'i': func(s *api.State, r api.Row) {
			i := api.Inst{Id: idOf(r.Key)}
			eachInst(&i, (&reader{b: r.Value}).fields())
			s.Insts = append(s.Insts, i)
		},
		'o': func(s *api.State, r api.Row) {
			o := api.Open{R: api.Request{Token: idOf(r.Key)}}
			eachOpen(&o, (&reader{b: r.Value}).fields())
			s.Opens = append(s.Opens, o)
		},
		'p': func(s *api.State, r api.Row) { s.Next = append(s.Next, (&reader{b: r.Value}).take(8)) },
		'q': func(s *api.State, r api.Row) {
			var q api.Quote
			eachQuote(&q, (&reader{b: r.Value}).fields())
			s.Quotes = append(s.Quotes, q)
		},
		's': func(s *api.State, r api.Row) { eachOther(s, (&reader{b: r.Value}).fields()) },
	}
}

// Load tells the state that has these rows; ErrForm, if a state that may be
// has no such rows: what is read is laid anew, and held against them.
func Load(l []api.Row) (api.State, api.Errno) {
	if !batch.May(l) {
		return api.State{}, api.ErrForm
	}
	var s api.State
	by := readers()
	for _, r := range l {
		read, ok := by[r.Key[0]]
		if !ok {
			return api.State{}, api.ErrForm
		}
		read(&s, r)
	}
	rows, e := Rows(s)
	if e != api.OK || !slices.EqualFunc(rows, l, sameRow) {
		return api.State{}, api.ErrForm
	}
	return s, api.OK
}

func sameRow(a, b api.Row) bool { return a.Key == b.Key && bytes.Equal(a.Value, b.Value) }
